/- Own texts for the claim, part 3. -/
import Derived.Test.YtdodobpbdnpjiaaZF2
import Derived.Deep.CutBlock
import Derived.Deep.DeepCutAuto
namespace Go.Proofs.Ytdodobpbdnpjiaa
open Go Go.RowKit
open Kit (natVals)
open Cf (Op5 Ca opL caL)

theorem bx5 {w : World} {b : Nat} {a0 a1 a2 a3 a4 : Value} {T : TypeId} (h : BX w b #[a0, a1, a2, a3, a4] T) : w.cell? ⟨b, 0, none⟩ = some a0 ∧ w.cell? ⟨b, 1, none⟩ = some a1 ∧ w.cell? ⟨b, 2, none⟩ = some a2 ∧ w.cell? ⟨b, 3, none⟩ = some a3 ∧ w.cell? ⟨b, 4, none⟩ = some a4 := ⟨h.cell 0, h.cell 1, h.cell 2, h.cell 3, h.cell 4⟩
theorem below_app {a b c : World} {v : Value} {base : Nat} (h : Below base a b) (hg : b.grownBy c v.ownBlock) (hB : base ≤ b.heap.size) (hv : ∀ k, v.ownBlock = some k → base ≤ k) : Below base a c := h.grown hg hB hv
def NxPost (L : List Op5) (i : Nat) (w : World) (e : Ending) (w' : World) : Prop := ∃ v, e = .returned v ∧ w'.ownsRow w.heap.size 3 1 v (Cf.nexts L i).length (natVals (Cf.nexts L i)) ∧ Below w.heap.size w w'
section
variable {cb : Nat} {ov pv : Value} {L : List Op5} {P : List Nat}
set_option maxRecDepth 100000
set_option maxHeartbeats 2000000
/-- What is put in order at the end. -/
theorem rising_end {w W : World} {v : Value} {l : List Nat} (ho : W.ownsRow w.heap.size 3 1 v l.length (natVals l)) (hb : Below w.heap.size w W) (hl : l.length ≤ 4294967296) :
    Calls Try.prog 37 #[v] W fun e w' => ∃ v', e = .returned v' ∧ w'.ownsRow w.heap.size 3 1 v' (Cf.rise l).length (natVals (Cf.rise l)) ∧ Below w.heap.size w w' := by
  refine (rising_any ho hl).mono ?_
  rintro e w' ⟨v', rfl, h1, h2, -⟩
  exact ⟨v', rfl, h1, hb.trans (h2.to_below (fun k e => Kit.own_base ho k e) hb.size)⟩
theorem next_any (HF : FindC cb ov pv L P) {w : World} (h : Code w cb ov pv L P) (hn : L.length ≤ 1048576) {i : Nat} (hi0 : i < L.length) :
    Calls Try.prog 46 #[.pointer (some ⟨cb, 0, none⟩), .int .i64 (i : Int)] w (NxPost L i w) := by
  obtain ⟨i0, hi, hz0, hz1, hz2⟩ := info_parts infoI
  obtain ⟨x, hx⟩ : ∃ x, L[i]? = some x := ⟨_, List.getElem?_eq_getElem hi0⟩
  have k0 : w.cell? ⟨cb, 0, none⟩ = some ov := h.1.cell 0
  obtain ⟨b, o, p, hv, hob, hc⟩ := h.2.1.at (by omega)
  obtain ⟨c0, c1, c2, c3, c4⟩ := hc i x hx
  have hcb := h.1.sz
  have HJx := hid (fun W (hb : Below w.heap.size w W) => jump_any HF x W (h.below hb))
  have HX := tgt_at hx
  have HBh : Cf.beh L i = if Cf.stp x.k = false ∧ i + 1 < L.length then [i + 1] else [] := by unfold Cf.beh; rw [hx]
  have HS := hid (cstops_any x.k)
  unfold opA at HJx
  obtain ⟨xt, xk, xa, xn, xo⟩ := x
  dsimp only at c0 c1 c2 c3 c4 HJx HBh HS
  obtain ⟨r, hr⟩ : ∃ r, tgtO L ⟨xt, xk, xa, xn, xo⟩ = r := ⟨_, rfl⟩
  rw [hr] at HX HJx
  unfold fst at HJx
  have bx0 := BX.new w #[.int .i64 xt, .int .i64 xk, .int .i64 xa, .int .i64 xn, .int .i64 xo] 70
  have HBX := hid bx0
  have hi1 : IntKind.i64.wrap ((i : Int) + 1) = (i : Int) + 1 := IntWalk.i64_in _ (by omega)
  unfold NxPost Cf.nexts
  have HE := hid (fun l (h1 : l = Cf.raw L i) W v ho hb => rising_end (w := w) (W := W) (v := v) (l := l) ho hb (by rw [h1]; exact Nat.le_trans (Cf.raw_len L i) (by omega)))
  rw [hv] at k0
  subst hv
  obtain ⟨st, hst⟩ : ∃ s, Cf.stp xk = s := ⟨_, rfl⟩
  rw [hst] at HBh HS
  have HR : Cf.raw L i = Cf.beh L i ++ r.toList := by unfold Cf.raw; rw [HX]
  rw [HBh] at HR
  clear hc hx hr h HF bx0 HX HBh hst
  cases st with
  | true =>
    have hR : Hid (Cf.raw L i = r.toList) := HR
    clear HR
    cases r with
    | none =>
      go_enter Try.func46, Try.ntmps46; go_wp2_with (first | (go_at_call 43; refine (HS.out _).mono ?_; rintro e w' ⟨rfl, rfl⟩) | (go_at_call 44; refine (HJx.out _ (by repeat' first | with_reducible exact Below.refl _ _ | with_reducible assumption | with_reducible refine belows_drewN ?_ _ | with_reducible refine Below.drew ?_ | with_reducible refine Below.setCell ?_ ?_ _ | with_reducible refine Below.alloc ?_ ?_ _ | omega | (simp; done) | (simp; omega))).mono ?_; rintro e w2 ⟨rfl, hb2⟩; have HB2 : Hid (Below w.heap.size w w2) := belows (a := w) (by repeat' first | with_reducible exact Below.refl _ _ | with_reducible assumption | with_reducible refine belows_drewN ?_ _ | with_reducible refine Below.drew ?_ | with_reducible refine Below.setCell ?_ ?_ _ | with_reducible refine Below.alloc ?_ ?_ _ | omega | (simp; done) | (simp; omega)) hb2 (by simp only [World.size_alloc]; omega); clear hb2) | (go_at_call 37; refine (HE.out [] hR.out.symm _ _ ⟨rfl, .inl ⟨rfl, rfl⟩⟩ HB2.out).mono ?_; rintro e w3 ⟨v3, rfl, h3, hb3⟩))
      go_ret
      rw [hR.out]
      exact ⟨_, rfl, h3, hb3⟩
    | some q =>
      go_enter Try.func46, Try.ntmps46; go_wp2_with (first | (go_at_call 43; refine (HS.out _).mono ?_; rintro e w' ⟨rfl, rfl⟩) | (go_at_call 44; refine (HJx.out _ (by repeat' first | with_reducible exact Below.refl _ _ | with_reducible assumption | with_reducible refine belows_drewN ?_ _ | with_reducible refine Below.drew ?_ | with_reducible refine Below.setCell ?_ ?_ _ | with_reducible refine Below.alloc ?_ ?_ _ | omega | (simp; done) | (simp; omega))).mono ?_; rintro e w2 ⟨rfl, hb2⟩; have HB2 : Hid (Below w.heap.size w w2) := belows (a := w) (by repeat' first | with_reducible exact Below.refl _ _ | with_reducible assumption | with_reducible refine belows_drewN ?_ _ | with_reducible refine Below.drew ?_ | with_reducible refine Below.setCell ?_ ?_ _ | with_reducible refine Below.alloc ?_ ?_ _ | omega | (simp; done) | (simp; omega)) hb2 (by simp only [World.size_alloc]; omega); clear hb2) | (at_builtin; refine wpList_append_own _ rfl (.tmp 42) (.tmp 44) 34 rfl w.heap.size 3 i0 _ 1 8 Try.underlying34 hi hz0 hz1 hz2 rfl (by decide) (.slice none 0 0) 0 [] rfl ⟨rfl, .inl ⟨rfl, rfl⟩⟩ ⟨w2.heap.size, 0, none⟩ 1 1 [.int .i64 (q : Int)] rfl rfl (Kit.news_one w2 _ _) (Kit.ones_one rfl) (by unfold maxLen; omega) (by omega) (by have := HB2.out.size; simp only [World.size_alloc]; omega) ?_; intro v5 w5 ho5 hg5 _; have HO5 : Hid (w5.ownsRow w.heap.size 3 1 v5 [q].length (natVals [q])) := ho5; have HB5 : Hid (Below w.heap.size w w5) := below_app (belows HB2.out ((Below.refl _ _).alloc (Nat.le_refl _) _) HB2.out.size) hg5 (by have := HB2.out.size; simp only [World.size_alloc]; omega) (fun k e => by simp [Value.ownBlock] at e); clear ho5 hg5) | (go_at_call 37; refine (HE.out _ hR.out.symm _ _ HO5.out HB5.out).mono ?_; rintro e w3 ⟨v3, rfl, h3, hb3⟩))
      go_ret
      rw [hR.out]
      exact ⟨_, rfl, h3, hb3⟩
  | false =>
    by_cases hlt : i + 1 < L.length
    · have hR : Hid (Cf.raw L i = [i + 1] ++ r.toList) := by show Cf.raw L i = _; rw [HR, if_pos ⟨rfl, hlt⟩]
      have hlt2 : (i : Int) + 1 < (L.length : Int) := by omega
      clear HR
      cases r with
      | none =>
        go_enter Try.func46, Try.ntmps46; go_wp2_with (first | (go_at_call 43; refine (HS.out _).mono ?_; rintro e w' ⟨rfl, rfl⟩) | (at_builtin; refine wpList_append_own _ rfl (.tmp 30) (.tmp 33) 34 rfl w.heap.size 3 i0 _ 1 8 Try.underlying34 hi hz0 hz1 hz2 rfl (by decide) (.slice none 0 0) 0 [] rfl ⟨rfl, .inl ⟨rfl, rfl⟩⟩ ⟨w.heap.size + 1, 0, none⟩ 1 1 [.int .i64 ((i : Int) + 1)] rfl rfl (by have := Kit.news_one (w.alloc (.cells #[.int .i64 xt, .int .i64 xk, .int .i64 xa, .int .i64 xn, .int .i64 xo] 70)) (.int .i64 ((i : Int) + 1)) 3; simpa using this) (Kit.ones_one rfl) (by unfold maxLen; omega) (by omega) (by simp only [World.size_alloc]; omega) ?_; intro v1 w1 ho1 hg1 _; have HO1 : Hid (w1.ownsRow w.heap.size 3 1 v1 [i + 1].length (natVals [i + 1])) := ho1; have B1 := (HBX.out.below ((Below.refl _ _).alloc (Nat.le_refl _) _)).chg (Chg.of_grown (S := fun _ => False) hg1 (fun k e => by simp [Value.ownBlock] at e)) id; obtain ⟨q0, q1, q2, q3, q4⟩ := bx5 B1; have HB1 : Hid (Below w.heap.size w w1) := below_app (a := w) (by repeat' first | with_reducible exact Below.refl _ _ | with_reducible assumption | with_reducible refine belows_drewN ?_ _ | with_reducible refine Below.drew ?_ | with_reducible refine Below.setCell ?_ ?_ _ | with_reducible refine Below.alloc ?_ ?_ _ | omega | (simp; done) | (simp; omega)) hg1 (by simp only [World.size_alloc]; omega) (fun k e => by simp [Value.ownBlock] at e); clear ho1 hg1 B1) | (go_at_call 44; refine (HJx.out _ HB1.out).mono ?_; rintro e w2 ⟨rfl, hb2⟩; have HB2 : Hid (Below w.heap.size w w2) := belows HB1.out hb2 HB1.out.size; have HO2 := hid (Kit.owns_below HO1.out hb2 (Nat.le_refl _)); clear hb2) | (go_at_call 37; refine (HE.out _ hR.out.symm _ _ HO2.out HB2.out).mono ?_; rintro e w3 ⟨v3, rfl, h3, hb3⟩))
        go_ret
        rw [hR.out]
        exact ⟨_, rfl, h3, hb3⟩
      | some q =>
        go_enter Try.func46, Try.ntmps46; go_wp2_with (first | (go_at_call 43; refine (HS.out _).mono ?_; rintro e w' ⟨rfl, rfl⟩) | (at_builtin; refine wpList_append_own _ rfl (.tmp 30) (.tmp 33) 34 rfl w.heap.size 3 i0 _ 1 8 Try.underlying34 hi hz0 hz1 hz2 rfl (by decide) (.slice none 0 0) 0 [] rfl ⟨rfl, .inl ⟨rfl, rfl⟩⟩ ⟨w.heap.size + 1, 0, none⟩ 1 1 [.int .i64 ((i : Int) + 1)] rfl rfl (by have := Kit.news_one (w.alloc (.cells #[.int .i64 xt, .int .i64 xk, .int .i64 xa, .int .i64 xn, .int .i64 xo] 70)) (.int .i64 ((i : Int) + 1)) 3; simpa using this) (Kit.ones_one rfl) (by unfold maxLen; omega) (by omega) (by simp only [World.size_alloc]; omega) ?_; intro v1 w1 ho1 hg1 _; have HO1 : Hid (w1.ownsRow w.heap.size 3 1 v1 [i + 1].length (natVals [i + 1])) := ho1; have B1 := (HBX.out.below ((Below.refl _ _).alloc (Nat.le_refl _) _)).chg (Chg.of_grown (S := fun _ => False) hg1 (fun k e => by simp [Value.ownBlock] at e)) id; obtain ⟨q0, q1, q2, q3, q4⟩ := bx5 B1; have HB1 : Hid (Below w.heap.size w w1) := below_app (a := w) (by repeat' first | with_reducible exact Below.refl _ _ | with_reducible assumption | with_reducible refine belows_drewN ?_ _ | with_reducible refine Below.drew ?_ | with_reducible refine Below.setCell ?_ ?_ _ | with_reducible refine Below.alloc ?_ ?_ _ | omega | (simp; done) | (simp; omega)) hg1 (by simp only [World.size_alloc]; omega) (fun k e => by simp [Value.ownBlock] at e); clear ho1 hg1 B1) | (go_at_call 44; refine (HJx.out _ HB1.out).mono ?_; rintro e w2 ⟨rfl, hb2⟩; have HB2 : Hid (Below w.heap.size w w2) := belows HB1.out hb2 HB1.out.size; have HO2 := hid (Kit.owns_below HO1.out hb2 (Nat.le_refl _)); clear hb2) | (at_builtin; refine wpList_append_own _ rfl (.tmp 42) (.tmp 44) 34 rfl w.heap.size 3 i0 _ 1 8 Try.underlying34 hi hz0 hz1 hz2 rfl (by decide) v1 1 (natVals [i + 1]) rfl (Kit.owns_below HO2.out ((Below.refl _ _).alloc (Nat.le_refl _) _) (Nat.le_refl _)) ⟨w2.heap.size, 0, none⟩ 1 1 [.int .i64 (q : Int)] rfl rfl (Kit.news_one w2 _ _) (Kit.ones_one rfl) (by unfold maxLen; omega) (by omega) (by have := HB2.out.size; simp only [World.size_alloc]; omega) ?_; intro v5 w5 ho5 hg5 _; have HO5 : Hid (w5.ownsRow w.heap.size 3 1 v5 [i + 1, q].length (natVals [i + 1, q])) := ho5; have HB5 : Hid (Below w.heap.size w w5) := below_app (belows HB2.out ((Below.refl _ _).alloc (Nat.le_refl _) _) HB2.out.size) hg5 (by have := HB2.out.size; simp only [World.size_alloc]; omega) (fun k e => Kit.own_base HO2.out k e); clear ho5 hg5) | (go_at_call 37; refine (HE.out _ hR.out.symm _ _ HO5.out HB5.out).mono ?_; rintro e w3 ⟨v3, rfl, h3, hb3⟩))
        go_ret
        rw [hR.out]
        exact ⟨_, rfl, h3, hb3⟩
    · have hR : Hid (Cf.raw L i = r.toList) := by show Cf.raw L i = _; rw [HR, if_neg (fun h => hlt h.2)]; rfl
      have hlt2 : ¬ ((i : Int) + 1 < (L.length : Int)) := by omega
      clear HR
      cases r with
      | none =>
        go_enter Try.func46, Try.ntmps46; go_wp2_with (first | (go_at_call 43; refine (HS.out _).mono ?_; rintro e w' ⟨rfl, rfl⟩) | (go_at_call 44; refine (HJx.out _ (by repeat' first | with_reducible exact Below.refl _ _ | with_reducible assumption | with_reducible refine belows_drewN ?_ _ | with_reducible refine Below.drew ?_ | with_reducible refine Below.setCell ?_ ?_ _ | with_reducible refine Below.alloc ?_ ?_ _ | omega | (simp; done) | (simp; omega))).mono ?_; rintro e w2 ⟨rfl, hb2⟩; have HB2 : Hid (Below w.heap.size w w2) := belows (a := w) (by repeat' first | with_reducible exact Below.refl _ _ | with_reducible assumption | with_reducible refine belows_drewN ?_ _ | with_reducible refine Below.drew ?_ | with_reducible refine Below.setCell ?_ ?_ _ | with_reducible refine Below.alloc ?_ ?_ _ | omega | (simp; done) | (simp; omega)) hb2 (by simp only [World.size_alloc]; omega); clear hb2) | (go_at_call 37; refine (HE.out [] hR.out.symm _ _ ⟨rfl, .inl ⟨rfl, rfl⟩⟩ HB2.out).mono ?_; rintro e w3 ⟨v3, rfl, h3, hb3⟩))
        go_ret
        rw [hR.out]
        exact ⟨_, rfl, h3, hb3⟩
      | some q =>
        go_enter Try.func46, Try.ntmps46; go_wp2_with (first | (go_at_call 43; refine (HS.out _).mono ?_; rintro e w' ⟨rfl, rfl⟩) | (go_at_call 44; refine (HJx.out _ (by repeat' first | with_reducible exact Below.refl _ _ | with_reducible assumption | with_reducible refine belows_drewN ?_ _ | with_reducible refine Below.drew ?_ | with_reducible refine Below.setCell ?_ ?_ _ | with_reducible refine Below.alloc ?_ ?_ _ | omega | (simp; done) | (simp; omega))).mono ?_; rintro e w2 ⟨rfl, hb2⟩; have HB2 : Hid (Below w.heap.size w w2) := belows (a := w) (by repeat' first | with_reducible exact Below.refl _ _ | with_reducible assumption | with_reducible refine belows_drewN ?_ _ | with_reducible refine Below.drew ?_ | with_reducible refine Below.setCell ?_ ?_ _ | with_reducible refine Below.alloc ?_ ?_ _ | omega | (simp; done) | (simp; omega)) hb2 (by simp only [World.size_alloc]; omega); clear hb2) | (at_builtin; refine wpList_append_own _ rfl (.tmp 42) (.tmp 44) 34 rfl w.heap.size 3 i0 _ 1 8 Try.underlying34 hi hz0 hz1 hz2 rfl (by decide) (.slice none 0 0) 0 [] rfl ⟨rfl, .inl ⟨rfl, rfl⟩⟩ ⟨w2.heap.size, 0, none⟩ 1 1 [.int .i64 (q : Int)] rfl rfl (Kit.news_one w2 _ _) (Kit.ones_one rfl) (by unfold maxLen; omega) (by omega) (by have := HB2.out.size; simp only [World.size_alloc]; omega) ?_; intro v5 w5 ho5 hg5 _; have HO5 : Hid (w5.ownsRow w.heap.size 3 1 v5 [q].length (natVals [q])) := ho5; have HB5 : Hid (Below w.heap.size w w5) := below_app (belows HB2.out ((Below.refl _ _).alloc (Nat.le_refl _) _) HB2.out.size) hg5 (by have := HB2.out.size; simp only [World.size_alloc]; omega) (fun k e => by simp [Value.ownBlock] at e); clear ho5 hg5) | (go_at_call 37; refine (HE.out _ hR.out.symm _ _ HO5.out HB5.out).mono ?_; rintro e w3 ⟨v3, rfl, h3, hb3⟩))
        go_ret
        rw [hR.out]
        exact ⟨_, rfl, h3, hb3⟩
end
end Go.Proofs.Ytdodobpbdnpjiaa
namespace Go.Proofs.Ytdodobpbdnpjiaa
open Go Go.RowKit
open Kit (natVals)
open Cf (Op5 Ca opL caL)

abbrev Nil : Value := .slice none 0 0
theorem region_named {P : Program} {id : Nat} {ops : Array Oper} {b : Bool} {Q : Exit → Act → World → Prop} {a : Act} {w : World} (h : ∀ W, W = w → (Code.region id ops b).wp P Q a W) : (Code.region id ops b).wp P Q a w := h w rfl
theorem infoB : (Try.prog.info? 36).map (fun i => (i.zero, i.size, i.bytes)) = some (some (.agg #[.int .i64 0, .int .i64 0, .slice none 0 0, .slice none 0 0]), 4, 64) := by kernel_rfl
theorem rows_set {f f' : Nat → List Value} {s : Nat} (hf : ∀ x, (f x).length = s) : ∀ {n k i : Nat} {u : Value}, k < n → i < s → f' k = (f k).set i u → (∀ j, j < n → j ≠ k → f' j = f j) → ((List.range n).flatMap f).set (k * s + i) u = (List.range n).flatMap f'
  | 0, k, i, u, hk, _, _, _ => by omega
  | n + 1, k, i, u, hk, hi, h1, h2 => by
    rw [List.range_succ, List.flatMap_append, List.flatMap_append, List.set_append]
    have hl : ((List.range n).flatMap f).length = n * s := by rw [Kit.flat_len hf, List.length_range]
    rw [hl]
    by_cases e : k < n
    · have hle : k * s + s ≤ n * s := by rw [← Nat.succ_mul]; exact Nat.mul_le_mul_right _ e
      rw [if_pos (by omega), rows_set hf e hi h1 (fun j hj hne => h2 j (by omega) hne)]
      congr 1
      simp only [List.flatMap_cons, List.flatMap_nil, List.append_nil]
      exact (h2 n (by omega) (by omega)).symm
    · obtain rfl : k = n := by omega
      rw [if_neg (by omega), flatMap_same (f := f) (g := f') (fun x hx => (h2 x (by have := List.mem_range.1 hx; omega) (by have := List.mem_range.1 hx; omega)).symm)]
      congr 1
      simp only [List.flatMap_cons, List.flatMap_nil, List.append_nil]
      rw [h1]
      congr 1
      omega
/-- A graph in memory while its blocks are found. -/
structure GW (W : World) (base gb : Nat) (bv fv : Value) (k n : Nat) (R : Nat → List Value) (F : Nat → Int) : Prop where
  box : BX W gb #[bv, fv, Nil, Nil, Nil, Nil] 56
  bl : W.ownsRow base 36 4 bv k ((List.range k).flatMap R)
  of : W.ownsRow base 3 1 fv n (ivals F n)
  lo : base ≤ gb
section
variable {W W' : World} {base gb : Nat} {bv fv : Value} {k n : Nat} {R : Nat → List Value} {F : Nat → Int}
theorem GW.below (h : GW W base gb bv fv k n R F) (hb : Below W.heap.size W W') : GW W' base gb bv fv k n R F := ⟨h.box.below hb, Kit.owns_below h.bl hb (Nat.le_refl _), Kit.owns_below h.of hb (Nat.le_refl _), h.lo⟩
theorem GW.cells (h : GW W base gb bv fv k n R F) : W.cell? ⟨gb, 0, none⟩ = some bv ∧ W.cell? ⟨gb, 1, none⟩ = some fv ∧ (∀ j, W.frozen? ⟨gb, j, none⟩ = false) := ⟨h.box.cell 0, h.box.cell 1, fun j => h.box.frozen j⟩
/-- One block more. -/
theorem GW.app {W2 w3 : World} {v2 : Value} (h : GW W base gb bv fv k n R F) (hb : Below W.heap.size W W2) (hg : W2.grownBy w3 bv.ownBlock) (ho : w3.ownsRow base 36 4 v2 (k + 1) ((List.range k).flatMap R ++ R k)) :
    w3.cell? ⟨gb, 0, none⟩ = some bv ∧ w3.frozen? ⟨gb, 0, none⟩ = false ∧ GW (w3.setCell ⟨gb, 0, none⟩ v2) base gb v2 fv (k + 1) n R F ∧ Chg (fun i => i = gb ∨ bv.ownBlock = some i) W (w3.setCell ⟨gb, 0, none⟩ v2) := by
  have h2 := h.below hb
  have hc3 : Chg (fun i => bv.ownBlock = some i) W2 w3 := Chg.of_grown hg (fun k e => e)
  have bx3 := h2.box.chg hc3 (own_unlike_box h2.bl h2.box (by decide))
  have hc4 : Chg (fun i => i = gb) w3 (w3.setCell ⟨gb, 0, none⟩ v2) := (Chg.refl (fun i => i = gb) w3).set (p := ⟨gb, 0, none⟩) (.inl rfl) v2
  refine ⟨bx3.cell 0, bx3.frozen 0, ⟨box_set bx3 0 v2, ?_, ?_, h.lo⟩, ?_⟩
  · rw [List.range_succ, List.flatMap_append]
    simp only [List.flatMap_cons, List.flatMap_nil, List.append_nil]
    exact owns_chg ho hc4 (fun j e e2 => own_unlike_box ho bx3 (by decide) (e2 ▸ e))
  · have o3 := owns_chg h2.of hc3 (fun j e e2 => own_unlike h2.bl h2.of (by decide) j e2 e)
    exact owns_chg o3 hc4 (fun j e e2 => own_unlike_box o3 bx3 (by decide) (e2 ▸ e))
  · refine ((Chg.of_below (S := fun i => i = gb ∨ bv.ownBlock = some i) hb).trans hc3 (fun i e => .inl (.inr e))).trans hc4 (fun i e => .inl (.inl e))
/-- A cell of a block is written. -/
theorem GW.setBl {bb cap b i : Nat} {u : Value} {R' : Nat → List Value} (h : GW W base gb (.slice (some ⟨bb, 0, none⟩) k cap) fv k n R F) (hR : ∀ x, (R x).length = 4) (hb : b < k) (hi : i < 4) (h1 : R' b = (R b).set i u) (h2 : ∀ j, j < k → j ≠ b → R' j = R j) :
    GW (W.setCell ⟨bb, b * 4 + i, none⟩ u) base gb (.slice (some ⟨bb, 0, none⟩) k cap) fv k n R' F ∧ Chg (fun j => j = bb) W (W.setCell ⟨bb, b * 4 + i, none⟩ u) := by
  have hc : Chg (fun j => j = bb) W (W.setCell ⟨bb, b * 4 + i, none⟩ u) := (Chg.refl (fun j => j = bb) W).set (p := ⟨bb, b * 4 + i, none⟩) (.inl rfl) u
  refine ⟨⟨h.box.chg hc (fun e => own_unlike_box h.bl h.box (by decide) (by rw [e]; rfl)), ?_, owns_chg h.of hc (fun j e e2 => own_unlike h.of h.bl (by decide) j e (by rw [e2]; rfl)), h.lo⟩, hc⟩
  have := owns_set h.bl (b * 4 + i) u
  rw [rows_set hR hb hi h1 h2] at this
  exact this
theorem GW.setOf {ob cap i : Nat} {u : Int} {F' : Nat → Int} (h : GW W base gb bv (.slice (some ⟨ob, 0, none⟩) n cap) k n R F) (hF : ∀ j, j < n → F' j = if j = i then u else F j) :
    GW (W.setCell ⟨ob, i, none⟩ (.int .i64 u)) base gb bv (.slice (some ⟨ob, 0, none⟩) n cap) k n R F' ∧ Chg (fun j => j = ob) W (W.setCell ⟨ob, i, none⟩ (.int .i64 u)) := by
  have hc : Chg (fun j => j = ob) W (W.setCell ⟨ob, i, none⟩ (.int .i64 u)) := (Chg.refl (fun j => j = ob) W).set (p := ⟨ob, i, none⟩) (.inl rfl) _
  exact ⟨⟨h.box.chg hc (fun e => own_unlike_box h.of h.box (by decide) (by rw [e]; rfl)), owns_chg h.bl hc (fun j e e2 => own_unlike h.of h.bl (by decide) j (by rw [e2]; rfl) e), owns_set1 h.of i _ (ivals_set hF), h.lo⟩, hc⟩
/-- The cells of a block. -/
theorem GW.at {bb cap b : Nat} (h : GW W base gb (.slice (some ⟨bb, 0, none⟩) k cap) fv k n R F) (hR : ∀ x, (R x).length = 4) (hb : b < k) : bb < W.heap.size ∧ ∀ i u, i < 4 → (R b)[i]? = some u → W.cell? ⟨bb, b * 4 + i, none⟩ = some u ∧ W.frozen? ⟨bb, b * 4 + i, none⟩ = false := by
  have hl := h.bl.1
  rcases h.bl.2 with ⟨e, -⟩ | ⟨g, cap', cur, e, hg, hh, hc1, hc2, hc3, ht⟩
  · cases e
  · obtain ⟨e1, -, rfl⟩ := Value.slice.inj e
    obtain rfl : bb = g := by simpa using e1
    refine ⟨(Array.getElem?_eq_some_iff.1 hh).1, fun i u hi hu => ⟨?_, by simp [World.frozen?, hh]⟩⟩
    have hx := (Kit.flat_at hR (List.getElem?_range hb) i hi).trans hu
    rw [← ht, List.getElem?_take_of_lt (by have : b * 4 + 4 ≤ k * 4 := (by omega); omega)] at hx
    have : cur[b * 4 + i]? = some u := by simpa using hx
    simp [World.cell?, hh, this]
theorem GW.pos (h : GW W base gb bv fv k n R F) (hk : 0 < k) : ∃ bb cap, bv = .slice (some ⟨bb, 0, none⟩) k cap ∧ base ≤ bb := by
  rcases h.bl.2 with ⟨-, e⟩ | ⟨g, cap, cur, e, hg, -⟩
  · omega
  · exact ⟨g, cap, e, hg⟩
end
namespace Cf
def bkR (B : Nat → Bool) (i : Nat) (b : Nat) : List Value := [.int .i64 (frI B i b : Int), .int .i64 (toI B i b : Int), Nil, Nil]
theorem bkR_len (B : Nat → Bool) (i b : Nat) : (bkR B i b).length = 4 := rfl
def ofI (B : Nat → Bool) (i j : Nat) : Int := if j < i then (ofB B j : Int) else 0
/-- A block begins. -/
def bkY (B : Nat → Bool) (i b : Nat) : List Value := if b = cnt B i then [.int .i64 (i : Int), .int .i64 0, Nil, Nil] else bkR B i b
theorem bkY_len (B : Nat → Bool) (i b : Nat) : (bkY B i b).length = 4 := by unfold bkY; split <;> rfl
theorem yes_rows {B : Nat → Bool} {i : Nat} (hB : B i = true) : bkR B (i + 1) (cnt B i) = (bkY B i (cnt B i)).set 1 (.int .i64 ((i : Int) + 1)) ∧ ∀ b, b < cnt B i + 1 → b ≠ cnt B i → bkR B (i + 1) b = bkY B i b := by
  have hs := sts_yes hB
  constructor
  · unfold bkR bkY frI toI
    have e1 : (sts B i ++ [i])[cnt B i]? = some i := by rw [List.getElem?_append_right (by rw [sts_len]; omega), sts_len, Nat.sub_self]; rfl
    have e2 : (sts B i ++ [i])[cnt B i + 1]? = none := List.getElem?_eq_none (by simp [sts_len])
    rw [if_pos rfl, hs, e1, e2]
    rfl
  · intro b hb hne
    unfold bkR bkY frI toI
    rw [if_neg hne, hs, List.getElem?_append_left (by rw [sts_len]; omega)]
    unfold bkR frI toI
    by_cases e : b + 1 < cnt B i
    · rw [List.getElem?_append_left (by rw [sts_len]; omega)]
      obtain ⟨x, hx⟩ : ∃ x, (sts B i)[b + 1]? = some x := ⟨_, List.getElem?_eq_getElem (by rw [sts_len]; omega)⟩
      rw [hx]
      rfl
    · have e1 : (sts B i ++ [i])[b + 1]? = some i := by rw [List.getElem?_append_right (by rw [sts_len]; omega), sts_len, show b + 1 - cnt B i = 0 by omega]; rfl
      have e2 : (sts B i)[b + 1]? = none := List.getElem?_eq_none (by rw [sts_len]; omega)
      rw [e1, e2]
      rfl
theorem no_rows {B : Nat → Bool} {i c : Nat} (hB : B i = false) (hc : cnt B i = c + 1) : bkR B (i + 1) c = (bkR B i c).set 1 (.int .i64 ((i : Int) + 1)) ∧ ∀ b, b < cnt B i → b ≠ c → bkR B (i + 1) b = bkR B i b := by
  have hs := sts_no hB
  constructor
  · unfold bkR frI toI
    have e2 : (sts B i)[c + 1]? = none := List.getElem?_eq_none (by rw [sts_len]; omega)
    rw [hs, e2]
    rfl
  · intro b hb hne
    unfold bkR frI toI
    rw [hs]
    obtain ⟨x, hx⟩ : ∃ x, (sts B i)[b + 1]? = some x := ⟨_, List.getElem?_eq_getElem (by rw [sts_len]; omega)⟩
    rw [hx]
    rfl
theorem ofI_step {B : Nat → Bool} {i c : Nat} (hc : cnt B (i + 1) = c + 1) (j : Nat) : ofI B (i + 1) j = if j = i then (c : Int) else ofI B i j := by
  unfold ofI ofB
  by_cases e : j = i
  · subst e
    rw [if_pos (by omega), if_pos rfl, hc]
    rfl
  · rw [if_neg e]
    by_cases e2 : j < i
    · rw [if_pos e2, if_pos (by omega)]
    · rw [if_neg e2, if_neg (by omega)]
end Cf
/-- Where cut stands. -/
structure CuI (w : World) (base gb ob sb n : Nat) (B : Nat → Bool) (i : Nat) (bv : Value) (W : World) : Prop where
  gw : GW W base gb bv (.slice (some ⟨ob, 0, none⟩) n n) (Cf.cnt B i) n (Cf.bkR B i) (Cf.ofI B i)
  bg : W.ownsRow base 4 1 (.slice (some ⟨sb, 0, none⟩) n n) n (bvals B n)
  bel : Below base w W
  sz : w.heap.size ≤ W.heap.size
section
variable {w W : World} {base gb ob sb n : Nat} {B : Nat → Bool} {i : Nat} {bv : Value}
theorem CuI.yes {W2 w3 : World} {v2 : Value} (h : CuI w base gb ob sb n B i bv W) (hB : B i = true) (hbw : base ≤ w.heap.size) (hb : Below W.heap.size W W2) (hg : W2.grownBy w3 bv.ownBlock) (ho : w3.ownsRow base 36 4 v2 (Cf.cnt B i + 1) ((List.range (Cf.cnt B i)).flatMap (Cf.bkR B i) ++ [.int .i64 (i : Int), .int .i64 0, Nil, Nil])) :
    w3.cell? ⟨gb, 0, none⟩ = some bv ∧ w3.frozen? ⟨gb, 0, none⟩ = false ∧ GW (w3.setCell ⟨gb, 0, none⟩ v2) base gb v2 (.slice (some ⟨ob, 0, none⟩) n n) (Cf.cnt B i + 1) n (Cf.bkY B i) (Cf.ofI B i) ∧
      (w3.setCell ⟨gb, 0, none⟩ v2).ownsRow base 4 1 (.slice (some ⟨sb, 0, none⟩) n n) n (bvals B n) ∧ Below base w (w3.setCell ⟨gb, 0, none⟩ v2) ∧ w.heap.size ≤ (w3.setCell ⟨gb, 0, none⟩ v2).heap.size := by
  have e : (List.range (Cf.cnt B i)).flatMap (Cf.bkR B i) = (List.range (Cf.cnt B i)).flatMap (Cf.bkY B i) := flatMap_same fun b hb => by
    have := List.mem_range.1 hb
    unfold Cf.bkY
    rw [if_neg (by omega)]
  have hgw : GW W base gb bv (.slice (some ⟨ob, 0, none⟩) n n) (Cf.cnt B i) n (Cf.bkY B i) (Cf.ofI B i) := ⟨h.gw.box, by rw [← e]; exact h.gw.bl, h.gw.of, h.gw.lo⟩
  rw [e, show [.int .i64 (i : Int), .int .i64 0, Nil, Nil] = Cf.bkY B i (Cf.cnt B i) by unfold Cf.bkY; rw [if_pos rfl]] at ho
  obtain ⟨a1, a2, a3, a4⟩ := hgw.app hb hg ho
  refine ⟨a1, a2, a3, owns_chg h.bg a4 (fun j e => ?_), h.bel.trans (a4.to_below (fun j e => ?_) (Nat.le_trans hbw h.sz)), Nat.le_trans h.sz a4.size⟩
  · rintro (rfl | e2)
    · exact own_unlike_box h.bg h.gw.box (by decide) e
    · exact own_unlike h.bg h.gw.bl (by decide) j e e2
  · rcases e with rfl | e
    · exact h.gw.lo
    · exact Kit.own_base h.gw.bl j e
/-- The block's end and the place's block are written. -/
theorem cu_fin {bb cap c : Nat} {R : Nat → List Value} (hbw : base ≤ w.heap.size) (h : GW W base gb (.slice (some ⟨bb, 0, none⟩) (c + 1) cap) (.slice (some ⟨ob, 0, none⟩) n n) (c + 1) n R (Cf.ofI B i)) (hg : W.ownsRow base 4 1 (.slice (some ⟨sb, 0, none⟩) n n) n (bvals B n)) (hb : Below base w W) (hs : w.heap.size ≤ W.heap.size)
    (hR : ∀ x, (R x).length = 4) (hc : Cf.cnt B (i + 1) = c + 1) (h1 : Cf.bkR B (i + 1) c = (R c).set 1 (.int .i64 ((i : Int) + 1))) (h2 : ∀ b, b < c + 1 → b ≠ c → Cf.bkR B (i + 1) b = R b) :
    CuI w base gb ob sb n B (i + 1) (.slice (some ⟨bb, 0, none⟩) (c + 1) cap) ((W.setCell ⟨bb, c * 4 + 1, none⟩ (.int .i64 ((i : Int) + 1))).setCell ⟨ob, i, none⟩ (.int .i64 (c : Int))) := by
  obtain ⟨g1, c1⟩ := h.setBl (R' := Cf.bkR B (i + 1)) hR (Nat.lt_succ_self c) (by omega) h1 h2
  obtain ⟨g2, c2⟩ := g1.setOf (i := i) (u := (c : Int)) (F' := Cf.ofI B (i + 1)) (fun j _ => Cf.ofI_step hc j)
  have hc3 : Chg (fun j => j = bb ∨ j = ob) W _ := (c1.mono (T := fun j => j = bb ∨ j = ob) (fun j _ e => .inl e)).trans c2 (fun j e => .inl (.inr e))
  refine ⟨by rw [hc]; exact g2, owns_chg hg hc3 (fun j e => ?_), hb.trans (hc3.to_below (fun j e => ?_) (Nat.le_trans hbw hs)), Nat.le_trans hs hc3.size⟩
  · rintro (rfl | rfl)
    · exact own_unlike hg h.bl (by decide) j e rfl
    · exact own_unlike hg h.of (by decide) j e rfl
  · rcases e with rfl | rfl
    · exact Kit.own_base h.bl j rfl
    · exact Kit.own_base h.of j rfl
set_option maxRecDepth 100000
set_option maxHeartbeats 2000000
theorem cut_any {base gb sb n : Nat} {B : Nat → Bool} {w : World} (hbx : BX w gb #[Nil, Nil, Nil, Nil, Nil, Nil] 56) (hbg : w.ownsRow base 4 1 (.slice (some ⟨sb, 0, none⟩) n n) n (bvals B n)) (hlo : base ≤ gb) (hn : n ≤ 1048576) (h0 : 0 < n → B 0 = true) :
    Calls Try.prog 21 #[.pointer (some ⟨gb, 0, none⟩), .slice (some ⟨sb, 0, none⟩) n n] w fun e w' => e = .returned (.tuple #[]) ∧ ∃ ob bv, CuI w base gb ob sb n B n bv w' := by
  have hbw : base ≤ w.heap.size := Nat.le_trans hlo (Nat.le_of_lt hbx.sz)
  obtain ⟨i0, hi, hz0, hz1, hz2⟩ := info_parts infoB
  have hmk := fun W => run_make_row' (P := Try.prog) 34 3 (.int .i64 0) 8 (by kernel_rfl) (by kernel_rfl) rfl .i64 .i64 n (by omega) (by omega) W
  have hH : CuI w base gb w.heap.size sb n B 0 Nil ((w.setCell ⟨gb, 1, none⟩ (.slice (some ⟨w.heap.size, 0, none⟩) n n)).alloc (.cells (madeCells #[.int .i64 0] n) 3)) := by
    have hc : Chg (fun i => i = gb) w (w.setCell ⟨gb, 1, none⟩ (.slice (some ⟨w.heap.size, 0, none⟩) n n)) := (Chg.refl (fun i => i = gb) w).set (p := ⟨gb, 1, none⟩) (.inl rfl) _
    have b1 := box_set hbx 1 (.slice (some ⟨w.heap.size, 0, none⟩) n n)
    have o1 := owns_made (base := base) (w.setCell ⟨gb, 1, none⟩ (.slice (some ⟨w.heap.size, 0, none⟩) n n)) (by simpa using hbw) (.int .i64 0) n (by unfold maxLen; omega) 3
    rw [World.size_setCell, ← ivals_const, ivals_same (g := Cf.ofI B 0) (fun i _ => by unfold Cf.ofI; rw [if_neg (by omega)])] at o1
    refine ⟨⟨BX.below b1 ((Below.refl _ _).alloc (Nat.le_refl _) _), ⟨rfl, .inl ⟨rfl, rfl⟩⟩, o1, hlo⟩, ?_, ?_, by simp⟩
    · exact Kit.owns_below (owns_chg hbg hc (fun j e e2 => own_unlike_box hbg hbx (by decide) (e2 ▸ e))) ((Below.refl _ _).alloc (Nat.le_refl _) _) (Nat.le_refl _)
    · exact (Below.setCell (Below.refl _ _) hlo _).alloc (by simpa using hbw) _
  have HH := hid hH
  have g0 := hbx.cell 1
  have g1 := hbx.frozen 1
  have g2 : w.cell? ⟨gb, 1, none⟩ = some Nil := g0
  have hgs := hbx.sz
  clear hH hbx hbg g0
  go_enter Try.func21, Try.ntmps21
  go_wp2
  go_loopw [15] (fun v wr => ∃ (i : Nat) (bv : Value), v = .int .i64 (i : Int) ∧ i ≤ n ∧ Hid (CuI w base gb w.heap.size sb n B i bv wr)) (fun v _ => n - (intOf v).toNat)
  case atStart => exact ⟨0, _, rfl, by omega, HH⟩
  case round =>
    clear HH g1 g2
    obtain ⟨i, bv, rfl, hin, HC⟩ := hrel
    have hbg0 := HC.out.bg
    have hsz := HC.out.sz
    by_cases hlt : i < n
    · obtain ⟨d0, -⟩ := own_cell hbg0 (bvals_at hlt)
      obtain ⟨k0, k1, k2⟩ := HC.out.gw.cells
      have kf := k2 0
      obtain ⟨ba, bcap, rfl⟩ := own_form HC.out.gw.bl
      have hcle := Cf.cnt_le B i
      have hgl := HC.out.gw.box.sz
      cases hB : B i with
      | true =>
        rw [hB] at d0
        have HB := hid hB
        have HOw := hid (fun X (b : Below wr.heap.size wr X) => Kit.owns_below HC.out.gw.bl b (Nat.le_refl _))
        obtain ⟨c, hc⟩ : ∃ c, Cf.cnt B i = c := ⟨_, rfl⟩
        have HCc := hid hc
        rw [hc] at k0 HOw hcle
        clear hbg0 k2 hB hc k1
        go_upto_region 6 with (at_builtin; refine wpList_append_own _ rfl (.tmp 25) (.tmp 28) 32 rfl base 36 i0 _ 4 64 Try.underlying32 hi hz0 hz1 hz2 rfl (by decide) (.slice ba c bcap) c _ rfl (HOw.out _ ((Below.refl _ _).alloc (Nat.le_refl _) _)) ⟨wr.heap.size, 0, none⟩ 1 1 [.int .i64 (i : Int), .int .i64 0, Nil, Nil] rfl rfl (news_of _ _ _) (by intro u hu; simp at hu; rcases hu with rfl | rfl | rfl <;> rfl) (by unfold maxLen; omega) (by omega) (by simp only [World.size_alloc]; omega) ?_; intro v2 w3 ho3 hg3 _; obtain ⟨a1, a2, a3, a4, a5, a6⟩ := HC.out.yes HB.out hbw ((Below.refl _ _).alloc (Nat.le_refl _) _) (by rw [HCc.out]; exact hg3) (by rw [HCc.out]; exact ho3); have A3 := hid a3; have A4 := hid a4; have A5 := hid a5; have A6 := hid a6; have a7 := a3.cells.1; obtain ⟨ba2, bcap2, rfl⟩ := own_form ho3; clear ho3 hg3 a3 a4 a5 a6)
        refine region_named fun W3 hW3 => ?_
        rw [← hW3] at A3 A4 A5 A6 a7
        rw [HCc.out] at A3
        obtain ⟨bb, bcp, hbv, hbb⟩ := A3.out.pos (by omega)
        rw [hbv] at A3 a7 ⊢
        clear a1 a2 k0 kf hW3 hbv HOw d0
        have HCn : Hid (Cf.cnt B (i + 1) = c + 1) := by show _ = _; rw [Cf.cnt_succ, if_pos HB.out, HCc.out]
        have hyr := Cf.yes_rows HB.out
        rw [HCc.out] at hyr
        have H1 := hid hyr.1
        have H2 := hid hyr.2
        have HR4 : Hid (∀ x, (Cf.bkY B i x).length = 4) := Cf.bkY_len B i
        have HO1 : Hid ((Cf.bkY B i c)[1]? = some (.int .i64 0)) := by show _ = _; unfold Cf.bkY; rw [if_pos HCc.out.symm]; rfl
        have HG := A3
        have HBg := A4
        have HBl := A5
        have HSz := A6
        clear hyr A3 A4 A5 A6 a7
        have hbl := (HG.out.at HR4.out (Nat.lt_succ_self c)).1
        have s0 := (HG.out.at HR4.out (Nat.lt_succ_self c)).2 1 _ (by omega) HO1.out
        obtain ⟨s1, s2⟩ := s0
        obtain ⟨g0, g1, g2⟩ := HG.out.cells
        obtain ⟨e0, e1⟩ := own_cell HG.out.of (ivals_at hlt)
        obtain ⟨z, hz⟩ : ∃ z, Cf.ofI B i i = z := ⟨_, rfl⟩
        rw [hz] at e0
        have HF := hid (cu_fin hbw HG.out HBg.out HBl.out HSz.out HR4.out HCn.out H1.out H2.out)
        have HS := hid (HG.out.setBl HR4.out (Nat.lt_succ_self c) (by omega) H1.out H2.out).1
        clear hz
        go_upto_region 8 with fail
        refine region_named fun W4 hW4 => ?_
        rw [← hW4] at HF HS
        obtain ⟨g3, g4, g5⟩ := HS.out.cells
        obtain ⟨e2, e3⟩ := own_cell HS.out.of (ivals_at hlt)
        obtain ⟨z2, hz2⟩ : ∃ z, Cf.ofI B i i = z := ⟨_, rfl⟩
        rw [hz2] at e2
        clear s1 s2 g0 g1 g2 e0 e1 hz2 hW4
        go_wp2
        go_roundw
        case rel => exact ⟨i + 1, _, by go_num, by omega, HF⟩
        case measure => simp [intOf]; omega
      | false =>
        rw [hB] at d0
        have hi0 : i ≠ 0 := by rintro rfl; rw [h0 (by omega)] at hB; cases hB
        obtain ⟨c, hc⟩ : ∃ c, Cf.cnt B i = c + 1 := ⟨Cf.cnt B i - 1, by have := Cf.cnt_pos (h0 (by omega)) (i := i) (by omega); omega⟩
        have hgw := HC.out.gw
        obtain ⟨bb, bcp, hbv, hbb⟩ := hgw.pos (by omega)
        rw [hbv] at hgw k0
        rw [hc] at hgw k0
        have HCn : Hid (Cf.cnt B (i + 1) = c + 1) := by show _ = _; rw [Cf.cnt_succ, if_neg (by rw [hB]; simp), hc]
        have hyr := Cf.no_rows hB hc
        rw [hc] at hyr
        have H1 := hid hyr.1
        have H2 := hid hyr.2
        have HR4 : Hid (∀ x, (Cf.bkR B i x).length = 4) := Cf.bkR_len B i
        have HO1 : Hid ((Cf.bkR B i c)[1]? = some (.int .i64 (Cf.toI B i c : Int))) := rfl
        have HG := hid hgw
        have HBg := hid hbg0
        have HBl := hid HC.out.bel
        have HSz := hid hsz
        rw [hc] at hcle
        clear hyr hbg0 hgw k2 kf hbv hc hB HC
        go_upto_region 6 with fail
        have hbl := (HG.out.at HR4.out (Nat.lt_succ_self c)).1
        have s0 := (HG.out.at HR4.out (Nat.lt_succ_self c)).2 1 _ (by omega) HO1.out
        obtain ⟨s1, s2⟩ := s0
        obtain ⟨g0, g1, g2⟩ := HG.out.cells
        obtain ⟨e0, e1⟩ := own_cell HG.out.of (ivals_at hlt)
        obtain ⟨z, hz⟩ : ∃ z, Cf.ofI B i i = z := ⟨_, rfl⟩
        rw [hz] at e0
        have HF := hid (cu_fin hbw HG.out HBg.out HBl.out HSz.out HR4.out HCn.out H1.out H2.out)
        have HS := hid (HG.out.setBl HR4.out (Nat.lt_succ_self c) (by omega) H1.out H2.out).1
        clear hz
        go_upto_region 8 with fail
        refine region_named fun W4 hW4 => ?_
        rw [← hW4] at HF HS
        obtain ⟨g3, g4, g5⟩ := HS.out.cells
        obtain ⟨e2, e3⟩ := own_cell HS.out.of (ivals_at hlt)
        obtain ⟨z2, hz2⟩ : ∃ z, Cf.ofI B i i = z := ⟨_, rfl⟩
        rw [hz2] at e2
        clear s1 s2 g0 g1 g2 e0 e1 hz2 hW4
        go_wp2
        go_roundw
        case rel => exact ⟨i + 1, _, by go_num, by omega, HF⟩
        case measure => simp [intOf]; omega
    · obtain rfl : i = n := by omega
      go_wp2
      refine bodyPost_end (results_none rfl _ _ _) rfl ?_
      exact ⟨rfl, _, _, HC.out⟩
end
end Go.Proofs.Ytdodobpbdnpjiaa
namespace Go.Proofs.Ytdodobpbdnpjiaa
open Go Go.RowKit
open Kit (natVals)
open Cf (Op5 Ca opL caL)

namespace Cf
/-- A block's cells, its lists wherever. -/
def bkV (B : Nat → Bool) (n : Nat) (nv cv : Nat → Value) (b : Nat) : List Value := [.int .i64 (frI B n b : Int), .int .i64 (toI B n b : Int), nv b, cv b]
theorem bkV_len (B : Nat → Bool) (n : Nat) (nv cv : Nat → Value) (b : Nat) : (bkV B n nv cv b).length = 4 := rfl
/-- The blocks behind a block. -/
def nxs (L : List Op5) (B : Nat → Bool) (b : Nat) : List Nat := (nexts L (toI B L.length b - 1)).map (ofB B)
theorem nxs_len (L : List Op5) (B : Nat → Bool) (b : Nat) : (nxs L B b).length ≤ 2 := by unfold nxs; rw [List.length_map]; exact nexts_len _ _
def ofN (B : Nat → Bool) (j : Nat) : Int := (ofB B j : Int)
end Cf
section
variable {W W' : World} {base gb : Nat} {bv fv : Value} {k n : Nat} {R : Nat → List Value} {F : Nat → Int}
/-- A graph in memory, when only its blocks' cells may have been written. -/
theorem GW.chg (h : GW W base gb bv fv k n R F) {S : Nat → Prop} (hc : Chg S W W') (h1 : ¬ S gb) (h2 : ∀ j, bv.ownBlock = some j → ¬ S j) (h3 : ∀ j, fv.ownBlock = some j → ¬ S j) : GW W' base gb bv fv k n R F :=
  ⟨h.box.chg hc h1, owns_chg h.bl hc h2, owns_chg h.of hc h3, h.lo⟩
/-- One more in a block's list. -/
theorem GW.grow {m bb cap ob c2 b i j : Nat} {u v2 : Value} {R' : Nat → List Value} {xs ys : List Value} {W1 W2 w3 : World} (h : GW W base gb (.slice (some ⟨bb, 0, none⟩) k cap) (.slice (some ⟨ob, 0, none⟩) n c2) k n R F) (hR : ∀ x, (R x).length = 4) (hb : b < k) (hi : i < 4) (hu : (R b)[i]? = some u)
    (h1 : R' b = (R b).set i v2) (h2 : ∀ j, j < k → j ≠ b → R' j = R j) (ho : W.ownsRow m 3 1 u j xs) (hob : ob < m) (hch : Chg (fun i => i = bb) W1 W) (hm : W1.heap.size ≤ m)
    (hbl : Below W.heap.size W W2) (hg : W2.grownBy w3 u.ownBlock) (ho3 : w3.ownsRow m 3 1 v2 (j + 1) ys) :
    w3.cell? ⟨bb, b * 4 + i, none⟩ = some u ∧ w3.frozen? ⟨bb, b * 4 + i, none⟩ = false ∧ GW (w3.setCell ⟨bb, b * 4 + i, none⟩ v2) base gb (.slice (some ⟨bb, 0, none⟩) k cap) (.slice (some ⟨ob, 0, none⟩) n c2) k n R' F ∧
      (w3.setCell ⟨bb, b * 4 + i, none⟩ v2).ownsRow m 3 1 v2 (j + 1) ys ∧ Chg (fun i => i = bb) W1 (w3.setCell ⟨bb, b * 4 + i, none⟩ v2) := by
  have hc3 : Chg (fun i => u.ownBlock = some i) W w3 := (Chg.of_below hbl).grown hg (fun k e => .inl e)
  have g3 := h.chg hc3 (own_unlike_box ho h.box (by decide)) (fun j e e2 => own_unlike h.bl ho (by decide) j e e2) (fun j e e2 => by
    obtain rfl : ob = j := Option.some.inj e
    have := Kit.own_base ho ob e2
    omega)
  obtain ⟨-, hat⟩ := g3.at hR hb
  obtain ⟨a1, a2⟩ := hat i u hi hu
  obtain ⟨g4, c4⟩ := g3.setBl (u := v2) hR hb hi h1 h2
  refine ⟨a1, a2, g4, owns_chg ho3 c4 (fun j e e2 => own_unlike ho3 g3.bl (by decide) j e (by rw [e2]; rfl)), ?_⟩
  refine (hch.trans hc3 (fun i e => ?_)).trans c4 (fun i e => .inl e)
  exact .inr (Nat.le_trans hm (Kit.own_base ho i e))
end
/-- Where goOn stands. -/
structure GoI (w : World) (base gb bb cap ob : Nat) (L : List Op5) (B : Nat → Bool) (k b : Nat) (nv : Nat → Value) (W : World) : Prop where
  gw : GW W base gb (.slice (some ⟨bb, 0, none⟩) k cap) (.slice (some ⟨ob, 0, none⟩) L.length L.length) k L.length (Cf.bkV B L.length nv (fun _ => Nil)) (Cf.ofN B)
  nx : ∀ x, x < k → W.ownsRow base 3 1 (nv x) (if x < b then Cf.nxs L B x else []).length (natVals (if x < b then Cf.nxs L B x else []))
  ni : ∀ x, b ≤ x → nv x = Nil
  bel : Below base w W
  sz : w.heap.size ≤ W.heap.size
theorem GoI.below {w W W' : World} {base gb bb cap ob : Nat} {L : List Op5} {B : Nat → Bool} {k b : Nat} {nv : Nat → Value} (h : GoI w base gb bb cap ob L B k b nv W) (hb : Below W.heap.size W W') (hw : base ≤ w.heap.size) : GoI w base gb bb cap ob L B k b nv W' :=
  ⟨h.gw.below hb, fun x hx => Kit.owns_below (h.nx x hx) hb (Nat.le_refl _), h.ni, belows h.bel hb (Nat.le_trans hw h.sz), Nat.le_trans h.sz hb.size⟩
/-- Where its inner loop stands. -/
structure GoJ (W1 : World) (base gb bb cap ob : Nat) (L : List Op5) (B : Nat → Bool) (k b : Nat) (nv : Nat → Value) (u : Value) (j : Nat) (W : World) : Prop where
  gw : GW W base gb (.slice (some ⟨bb, 0, none⟩) k cap) (.slice (some ⟨ob, 0, none⟩) L.length L.length) k L.length (Cf.bkV B L.length (upd nv b u) (fun _ => Nil)) (Cf.ofN B)
  row : W.ownsRow W1.heap.size 3 1 u j (natVals ((Cf.nxs L B b).take j))
  ch : Chg (fun i => i = bb) W1 W
section
variable {w W W1 : World} {base gb bb cap ob : Nat} {L : List Op5} {B : Nat → Bool} {k b j : Nat} {nv : Nat → Value} {u : Value}
theorem upd_self_eq {f : Nat → Value} {b : Nat} {v : Value} (h : f b = v) : upd f b v = f := by
  funext x
  unfold upd
  by_cases e : x = b
  · rw [if_pos e, e, h]
  · rw [if_neg e]
theorem GoI.inner (h : GoI w base gb bb cap ob L B k b nv W) : GoJ W base gb bb cap ob L B k b nv Nil 0 W :=
  ⟨by rw [upd_self_eq (h.ni b (Nat.le_refl _))]; exact h.gw, ⟨rfl, .inl ⟨rfl, rfl⟩⟩, Chg.refl _ _⟩
theorem GoJ.step {W2 w3 : World} {v2 : Value} {q : Nat} (h : GoJ W1 base gb bb cap ob L B k b nv u j W) (hk : b < k) (hob : ob < W1.heap.size) (hq : (Cf.nxs L B b)[j]? = some q) (hbl : Below W.heap.size W W2) (hg : W2.grownBy w3 u.ownBlock)
    (ho3 : w3.ownsRow W1.heap.size 3 1 v2 (j + 1) (natVals ((Cf.nxs L B b).take j) ++ [.int .i64 (q : Int)])) :
    w3.cell? ⟨bb, b * 4 + 2, none⟩ = some u ∧ w3.frozen? ⟨bb, b * 4 + 2, none⟩ = false ∧ GoJ W1 base gb bb cap ob L B k b nv v2 (j + 1) (w3.setCell ⟨bb, b * 4 + 2, none⟩ v2) := by
  have hu : (Cf.bkV B L.length (upd nv b u) (fun _ => Nil) b)[2]? = some u := by show some (upd nv b u b) = some u; rw [upd_same]
  obtain ⟨a1, a2, a3, a4, a5⟩ := h.gw.grow (i := 2) (v2 := v2) (R' := Cf.bkV B L.length (upd nv b v2) (fun _ => Nil)) (Cf.bkV_len _ _ _ _) hk (by omega) hu (by unfold Cf.bkV; rw [upd_same]; rfl) (fun x _ hx => by unfold Cf.bkV; rw [upd_other _ _ hx, upd_other _ _ hx]) h.row hob h.ch (Nat.le_refl _) hbl hg ho3
  refine ⟨a1, a2, a3, ?_, a5⟩
  rw [List.take_add_one, hq, ← Kit.natVals_snoc] at *
  exact a4
theorem GoI.next (h : GoI w base gb bb cap ob L B k b nv W1) (hk : b < k) (hw : base ≤ w.heap.size) (hj : GoJ W1 base gb bb cap ob L B k b nv u (Cf.nxs L B b).length W) : GoI w base gb bb cap ob L B k (b + 1) (upd nv b u) W := by
  refine ⟨hj.gw, fun x hx => ?_, fun x hx => by rw [upd_other _ _ (by omega)]; exact h.ni x (by omega), ?_, Nat.le_trans h.sz hj.ch.size⟩
  · by_cases e : x = b
    · subst e
      rw [upd_same, if_pos (by omega)]
      have := hj.row
      rw [List.take_length] at this
      exact Kit.owns_mono this (Nat.le_trans hw h.sz)
    · rw [upd_other _ _ e]
      have := owns_chg (h.nx x hx) hj.ch (fun i e e2 => own_unlike (h.nx x hx) h.gw.bl (by decide) i e (by rw [e2]; rfl))
      by_cases e2 : x < b
      · rw [if_pos e2] at this; rw [if_pos (by omega)]; exact this
      · rw [if_neg e2] at this; rw [if_neg (by omega)]; exact this
  · exact h.bel.trans (hj.ch.to_below (fun i e => by rw [e]; exact Kit.own_base h.gw.bl bb rfl) (Nat.le_trans hw h.sz))
end
section
variable {cb : Nat} {cov pv : Value} {L : List Op5} {P : List Nat}
set_option maxRecDepth 100000
set_option maxHeartbeats 2000000
theorem goOn_any (HF : FindC cb cov pv L P) {base gb bb cap ob k : Nat} {B : Nat → Bool} {w : World} (h : GoI w base gb bb cap ob L B k 0 (fun _ => Nil) w) (hC : Code w cb cov pv L P) (hlow : ∀ X, Below base w X → Code X cb cov pv L P) (hbw : base ≤ w.heap.size) (hn : L.length ≤ 1048576) (hk : k = Cf.cnt B L.length) (h0 : 0 < L.length → B 0 = true) :
    Calls Try.prog 23 #[.pointer (some ⟨gb, 0, none⟩), .pointer (some ⟨cb, 0, none⟩)] w fun e w' => e = .returned (.tuple #[]) ∧ ∃ nv, GoI w base gb bb cap ob L B k k nv w' := by
  obtain ⟨i0, hi, hz0, hz1, hz2⟩ := info_parts infoI
  have HI := hid h
  have HL := hid hlow
  have HN := hid (fun W (hc : Code W cb cov pv L P) i (hi : i < L.length) => next_any HF hc hn hi)
  have k0 := h.gw.cells.1
  have hkn : k ≤ L.length := by rw [hk]; exact Cf.cnt_le _ _
  have HK := hid hk
  clear h hlow hC HF hk
  go_enter Try.func23, Try.ntmps23
  go_wp2
  go_loopw [13] (fun v wr => ∃ (b : Nat) (nv : Nat → Value), v = .int .i64 (b : Int) ∧ b ≤ k ∧ Hid (GoI w base gb bb cap ob L B k b nv wr)) (fun v _ => k - (intOf v).toNat)
  case atStart => exact ⟨0, _, rfl, by omega, HI⟩
  case round =>
    clear HI k0
    obtain ⟨b, nv, rfl, hbk, HI⟩ := hrel
    by_cases hlt : b < k
    · obtain ⟨k0, k1, -⟩ := HI.out.gw.cells
      obtain ⟨hbl, hat⟩ := HI.out.gw.at (Cf.bkV_len _ _ _ _) hlt
      have c1 := (hat 1 _ (by omega) rfl).1
      have htn : Cf.toI B L.length b - 1 < L.length ∧ 0 < Cf.toI B L.length b := by
        have := Cf.to_le (B := B) (n := L.length) (b := b) (by rw [← HK.out]; exact hlt)
        omega
      obtain ⟨t, ht⟩ : ∃ t, Cf.toI B L.length b = t + 1 := ⟨Cf.toI B L.length b - 1, by omega⟩
      rw [ht] at c1 htn
      have hnx : Cf.nxs L B b = (Cf.nexts L t).map (Cf.ofB B) := by unfold Cf.nxs; rw [ht]; rfl
      have HNx := hid (HN.out wr (HL.out wr HI.out.bel) t (by omega))
      unfold NxPost at HNx
      have HX := hid hnx
      clear hat ht hnx
      have htc : ((t + 1 : Nat) : Int) - 1 = (t : Int) := by omega
      go_upto_block 2 with (go_at_call 46; refine HNx.out.mono ?_; rintro e w1 ⟨v1, rfl, ho1, hb1⟩; have HO1 := hid ho1; obtain ⟨va, vc, rfl⟩ := own_form ho1; have HB1 := hid hb1; clear ho1 hb1)
      have HI1 := hid (HI.out.below HB1.out hbw)
      obtain ⟨ln, hln⟩ : ∃ ln, (Cf.nexts L t).length = ln := ⟨_, rfl⟩
      have HLn := hid hln
      rw [hln] at HO1
      have hln2 : ln ≤ 2 := by rw [← hln]; exact Cf.nexts_len _ _
      have hnl : (Cf.nxs L B b).length = ln := by rw [HX.out, List.length_map]; exact hln
      have hnl2 := hid hnl
      have hob := Kit.own_lt HI1.out.gw.of ob rfl
      have hgs := HI1.out.gw.box.sz
      have hbs : bb < w1.heap.size := Kit.own_lt HI1.out.gw.bl bb rfl
      rw [hln]
      clear k0 k1 c1 htc hln hnl
      go_wp2
      go_loopw [30] (fun v wx => ∃ (j : Nat) (u : Value), v = .int .i64 (j : Int) ∧ j ≤ ln ∧ Hid (GoJ w1 base gb bb cap ob L B k b nv u j wx)) (fun v _ => ln - (intOf v).toNat)
      case atStart => exact ⟨0, _, rfl, by omega, HI1.out.inner⟩
      case round =>
        obtain ⟨wx, rfl⟩ : ∃ wx : World, wx = wr := ⟨_, rfl⟩
        obtain ⟨j, u, rfl, hj, HJ⟩ := hrel
        by_cases hlt2 : j < ln
        · obtain ⟨x, hx⟩ : ∃ x, (Cf.nexts L t)[j]? = some x := ⟨_, List.getElem?_eq_getElem (by rw [HLn.out]; exact hlt2)⟩
          have hxn := Cf.nexts_lt (List.mem_of_getElem? hx)
          have hq : (Cf.nxs L B b)[j]? = some (Cf.ofB B x) := by rw [HX.out, List.getElem?_map, hx]; rfl
          have HQ := hid hq
          have hol := owns_chg HO1.out HJ.out.ch (fun i e e2 => own_unlike HO1.out HI1.out.gw.bl (by decide) i e (by rw [e2]; rfl))
          obtain ⟨lb, lc, hlv, hlb, hlc⟩ := own_at0 hol (by omega)
          obtain ⟨rfl, -, rfl⟩ := Value.slice.inj hlv
          have l0 := (hlc j _ (Kit.natVals_at hx)).1
          obtain ⟨g0, g1, -⟩ := HJ.out.gw.cells
          obtain ⟨-, hat⟩ := HJ.out.gw.at (Cf.bkV_len _ _ _ _) hlt
          have c2 := (hat 2 u (by omega) (by show some (upd nv b u b) = some u; rw [upd_same])).1
          obtain ⟨o0, -⟩ := own_cell HJ.out.gw.of (ivals_at hxn)
          have o1 : wx.cell? ⟨ob, x, none⟩ = some (.int .i64 (Cf.ofB B x : Int)) := o0
          obtain ⟨q, hqq⟩ : ∃ q, Cf.ofB B x = q := ⟨_, rfl⟩
          rw [hqq] at o1 HQ
          obtain ⟨ua, ucap, rfl⟩ := own_form HJ.out.row
          have HOw := hid (fun X (hb : Below wx.heap.size wx X) => Kit.owns_below HJ.out.row hb (Nat.le_refl _))
          have hws := HJ.out.ch.size
          have hz1x : gb < wx.heap.size := by omega
          have hz2x : bb < wx.heap.size := by omega
          have hz3x : ob < wx.heap.size := by omega
          clear hx hq hol hlv hlc hat hqq o0
          go_wp2
          go_region_law (refine Kit.step_append_own rfl (.tmp 38) (.tmp 46) 34 rfl w1.heap.size 3 i0 _ 1 8 Try.underlying34 hi hz0 hz1 hz2 rfl (by decide) (.slice ua j ucap) j _ rfl (HOw.out _ (by repeat' first | with_reducible exact Below.refl _ _ | with_reducible assumption | with_reducible refine belows_drewN ?_ _ | with_reducible refine Below.drew ?_ | with_reducible refine Below.setCell ?_ ?_ _ | with_reducible refine Below.alloc ?_ ?_ _ | omega | (simp; done) | (simp; omega))) ⟨wx.heap.size, 0, none⟩ 1 1 [.int .i64 (q : Int)] rfl rfl (by intro j u hj; exact Kit.news_one _ _ 3 j u hj) (Kit.ones_one rfl) (by unfold maxLen; omega) (by omega) (by first | omega | (simp; omega)) ?_; intro v2 w3 ho3 hg3 hk3; obtain ⟨c3, y3, hN⟩ := HJ.out.step hlt hob HQ.out (by repeat' first | with_reducible exact Below.refl _ _ | with_reducible assumption | with_reducible refine belows_drewN ?_ _ | with_reducible refine Below.drew ?_ | with_reducible refine Below.setCell ?_ ?_ _ | with_reducible refine Below.alloc ?_ ?_ _ | omega | (simp; done) | (simp; omega)) hg3 ho3; have HNN := hid hN; obtain ⟨b2, q2, rfl⟩ := own_form ho3; clear ho3 hg3 hk3 hN)
          all_goals
            go_wp2
            go_roundw
            case rel => exact ⟨j + 1, _, by go_num, by omega, HNN⟩
            case measure => simp [intOf]; omega
        · obtain rfl : j = ln := by omega
          have HNN := hid (HI1.out.next hlt hbw (by rw [hnl2.out]; exact HJ.out))
          go_wp2
          go_roundw
          case rel => exact ⟨b + 1, _, by go_num, by omega, HNN⟩
          case measure => simp [intOf]; omega
    · obtain rfl : b = k := by omega
      go_wp2
      refine bodyPost_end (results_none rfl _ _ _) rfl ?_
      exact ⟨rfl, _, HI.out⟩
end
end Go.Proofs.Ytdodobpbdnpjiaa
namespace Go.Proofs.Ytdodobpbdnpjiaa
open Go Go.RowKit
open Kit (natVals)
open Cf (Op5 Ca opL caL)

/-- Where ends stands. -/
def EnI (w : World) (n m : Nat) (E : Nat → Nat) (W : World) : Prop :=
  W.ownsRow w.heap.size 3 1 (.slice (some ⟨w.heap.size, 0, none⟩) n n) n (ivals (fun i => (E i : Int)) n) ∧ (∀ i, m ≤ i → i < n → i < E i ∧ E i ≤ n) ∧ Below w.heap.size w W ∧ w.heap.size < W.heap.size
theorem EnI.set {w W : World} {n m j v : Nat} {E : Nat → Nat} (h : EnI w n m E W) (hm : m ≤ j + 1) (hv : j < v) (hn : v ≤ n) : EnI w n j (fun i => if i = j then v else E i) (W.setCell ⟨w.heap.size, j, none⟩ (.int .i64 (v : Int))) := by
  refine ⟨owns_set1 h.1 j _ (ivals_set fun i _ => ?_), fun i h1 h2 => ?_, Below.setCell h.2.2.1 (by simp) _, by simpa using h.2.2.2⟩
  · dsimp only
    by_cases e : i = j
    · rw [if_pos e, if_pos e]
    · rw [if_neg e, if_neg e]
  · dsimp only
    by_cases e : i = j
    · rw [if_pos e]; omega
    · rw [if_neg e]; exact h.2.1 i (by omega) h2
theorem EnI.below {w W W' : World} {n m : Nat} {E : Nat → Nat} (h : EnI w n m E W) (hb : Below W.heap.size W W') : EnI w n m E W' :=
  ⟨Kit.owns_below h.1 hb (Nat.le_refl _), h.2.1, belows h.2.2.1 hb (Nat.le_of_lt h.2.2.2), Nat.lt_of_lt_of_le h.2.2.2 hb.size⟩
section
variable {cb : Nat} {cov pv : Value} {L : List Op5} {P : List Nat}
set_option maxRecDepth 100000
set_option maxHeartbeats 2000000
theorem ends_any (hP : Cf.Pl (Cf.adr L) L.length P) {base ob : Nat} {F : Nat → Int} {w : World} (hC : Code w cb cov pv L P) (hof : w.ownsRow base 3 1 (.slice (some ⟨ob, 0, none⟩) L.length L.length) L.length (ivals F L.length)) (hn : L.length ≤ 1048576) :
    Calls Try.prog 47 #[.pointer (some ⟨cb, 0, none⟩), .slice (some ⟨ob, 0, none⟩) L.length L.length] w fun e w' => e = .returned (.slice (some ⟨w.heap.size, 0, none⟩) L.length L.length) ∧ ∃ E, EnI w L.length 0 E w' := by
  have hmk := fun W => run_make_row' (P := Try.prog) 34 3 (.int .i64 0) 8 (by kernel_rfl) (by kernel_rfl) rfl .i64 .i64 L.length (by omega) (by omega) W
  have k1 : w.cell? ⟨cb, 1, none⟩ = some pv := hC.1.cell 1
  obtain ⟨pa, pcap, rfl⟩ := own_form hC.2.2.1
  have hcb := hC.1.sz
  have HI : Hid (EnI w L.length L.length (fun _ => 0) (w.alloc (.cells (madeCells #[.int .i64 0] L.length) 3))) := by
    refine ⟨?_, fun i h1 h2 => by omega, (Below.refl _ _).alloc (Nat.le_refl _) _, by simp⟩
    have := owns_made w (Nat.le_refl _) (.int .i64 0) L.length (by unfold maxLen; omega) 3
    rw [← ivals_const] at this
    exact this
  have HCd := hid (fun W (hb : Below w.heap.size w W) => hC.below hb)
  have HOf := hid (fun W (hb : Below w.heap.size w W) => Kit.owns_below hof hb (Nat.le_refl _))
  have HP := hid hP
  clear hC hof hP
  go_enter Try.func47, Try.ntmps47
  go_wp2
  go_loopw [6] (fun v wr => ∃ (m : Nat) (E : Nat → Nat), v = .int .i64 ((m : Int) - 1) ∧ m ≤ L.length ∧ Hid (EnI w L.length m E wr)) (fun v _ => (intOf v + 1).toNat)
  case atStart => exact ⟨L.length, _, rfl, by omega, HI⟩
  case round =>
    clear HI k1
    obtain ⟨m, E, rfl, hm, HE⟩ := hrel
    cases m with
    | zero =>
      go_wp2
      go_ret
      exact ⟨rfl, E, HE.out⟩
    | succ j =>
      have e0 : ((j + 1 : Nat) : Int) - 1 = (j : Int) := by omega
      rw [e0]
      have hj : j < L.length := by omega
      obtain ⟨s0, s1⟩ := own_cell HE.out.1 (ivals_at hj)
      have HE1 := hid (HE.out.set (j := j) (v := j + 1) (by omega) (by omega) (by omega))
      have ec : ((j + 1 : Nat) : Int) = (j : Int) + 1 := by omega
      rw [ec] at HE1
      obtain ⟨z, hz⟩ : ∃ z, (E j : Int) = z := ⟨_, rfl⟩
      rw [hz] at s0
      clear hz e0
      go_upto_region 6 with fail
      refine region_named fun W hW => ?_
      rw [← hW] at HE1
      clear hW s0 s1 HE
      have hCd := HCd.out W HE1.out.2.2.1
      have hOf := HOf.out W HE1.out.2.2.1
      have k1 := hCd.1.cell 1
      have k2 : W.cell? ⟨cb, 1, none⟩ = some (.slice pa L.length pcap) := k1
      by_cases h1 : j + 1 < L.length
      · obtain ⟨pb, pc, hpv, hpl, hpc⟩ := own_at0 hCd.2.2.1 (by omega)
        obtain ⟨rfl, -, rfl⟩ := Value.slice.inj hpv
        have hPl := HP.out.len
        obtain ⟨p0, hp0⟩ : ∃ p, P[j]? = some p := ⟨_, List.getElem?_eq_getElem (by omega)⟩
        obtain ⟨p1, hp1⟩ : ∃ p, P[j + 1]? = some p := ⟨_, List.getElem?_eq_getElem (by omega)⟩
        have hq0 := (HP.out.mem p0).1 (List.mem_of_getElem? hp0)
        have hq1 := (HP.out.mem p1).1 (List.mem_of_getElem? hp1)
        have c0 := (hpc j _ (Kit.natVals_at hp0)).1
        have c1 := (hpc (j + 1) _ (Kit.natVals_at hp1)).1
        have o0 := (own_cell hOf (ivals_at hq0)).1
        have o1 := (own_cell hOf (ivals_at hq1)).1
        have h1i : (j : Int) + 1 < (L.length : Int) := by omega
        obtain ⟨s2, s3⟩ := own_cell HE1.out.1 (ivals_at hj)
        obtain ⟨s4, -⟩ := own_cell HE1.out.1 (ivals_at h1)
        have hEj := HE1.out.2.1 (j + 1) (by omega) h1
        dsimp only at s2 s4 hEj
        rw [if_pos rfl] at s2
        rw [if_neg (by omega)] at s4
        rw [if_neg (by omega)] at hEj
        obtain ⟨y, hy⟩ : ∃ y, E (j + 1) = y := ⟨_, rfl⟩
        rw [hy] at s4 hEj
        have HE2 := hid (fun q => (HE1.out.below (below_drewN W q)).set (j := j) (v := y) (by omega) (by omega) (by omega))
        obtain ⟨f0, hf0⟩ : ∃ f, F p0 = f := ⟨_, rfl⟩
        obtain ⟨f1, hf1⟩ : ∃ f, F p1 = f := ⟨_, rfl⟩
        rw [hf0] at o0
        rw [hf1] at o1
        clear hpc hpv hp0 hp1 hf0 hf1 hy k1 hCd hOf
        by_cases hf : f0 = f1
        · subst hf
          go_quiet (fail)
          go_wp2
          go_roundw
          case rel => exact ⟨j, _, by go_num, by omega, HE2.out nq⟩
          case measure => first | (simp [intOf]; done) | (simp [intOf]; omega)
        · go_quiet (fail)
          go_wp2
          go_roundw
          case rel => exact ⟨j, _, by go_num, by omega, HE1.out.below (below_drewN W nq)⟩
          case measure => first | (simp [intOf]; done) | (simp [intOf]; omega)
      · have h1i : ¬ ((j : Int) + 1 < (L.length : Int)) := by omega
        clear k1 hCd hOf
        go_quiet (fail)
        go_wp2
        go_roundw
        case rel => exact ⟨j, _, by go_num, by omega, HE1.out.below (below_drewN W nq)⟩
        case measure => first | (simp [intOf]; done) | (simp [intOf]; omega)
end
end Go.Proofs.Ytdodobpbdnpjiaa
namespace Go.Proofs.Ytdodobpbdnpjiaa
open Go Go.RowKit
open Kit (natVals)
open Cf (Op5 Ca opL caL)

/-- A span: the block at which a catch goes on, from where to where. -/
abbrev Sp := Int × Int × Int
def spL (s : Sp) : List Value := [.int .i64 s.1, .int .i64 s.2.1, .int .i64 s.2.2]
theorem spL_len (s : Sp) : (spL s).length = 3 := rfl
def cfS (a b : Sp) : Int := if Lib.compareInt a.1 b.1 = 0 then Lib.compareInt a.2.1 b.2.1 else Lib.compareInt a.1 b.1
theorem cfS_lt (a b : Sp) : ltOf cfS a b = true ↔ a.1 < b.1 ∨ (a.1 = b.1 ∧ a.2.1 < b.2.1) := by
  unfold ltOf cfS
  rw [decide_eq_true_iff]
  by_cases h : Lib.compareInt a.1 b.1 = 0
  · rw [if_pos h, cmp_neg]
    rw [cmp_zero] at h
    omega
  · rw [if_neg h, cmp_neg]
    rw [cmp_zero] at h
    omega
theorem swoS : Sort.SWO (ltOf cfS) where
  irrefl x := by
    rw [Bool.eq_false_iff]
    intro h
    have := (cfS_lt x x).1 h
    omega
  trans x y z h1 h2 := (cfS_lt x z).2 (by
    have h1 := (cfS_lt x y).1 h1
    have h2 := (cfS_lt y z).1 h2
    omega)
  ntrans x y z h1 h2 := by
    rw [Bool.eq_false_iff] at *
    intro h
    have h := (cfS_lt x z).1 h
    have h1 : ¬ (x.1 < y.1 ∨ (x.1 = y.1 ∧ x.2.1 < y.2.1)) := fun k => h1 ((cfS_lt x y).2 k)
    have h2 : ¬ (y.1 < z.1 ∨ (y.1 = z.1 ∧ y.2.1 < z.2.1)) := fun k => h2 ((cfS_lt y z).2 k)
    omega
set_option maxRecDepth 100000 in
set_option maxHeartbeats 1000000 in
theorem spans1_any (a b : Sp) (w : World) : Calls Try.prog 59 #[.agg (spL a).toArray, .agg (spL b).toArray] w fun e w' => e = .returned (.int .i64 (cfS a b)) ∧ ∃ q o1 o2 o3, w' = (((w.drewN q).alloc o1).alloc o2).alloc o3 := by
  obtain ⟨a0, a1, a2⟩ := a
  obtain ⟨b0, b1, b2⟩ := b
  have HC1 := fun W => compare_any a0 b0 W
  have HC2 := fun W => compare_any a1 b1 W
  unfold cfS spL
  dsimp only
  obtain ⟨c, hc⟩ : ∃ c, Lib.compareInt a0 b0 = c := ⟨_, rfl⟩
  obtain ⟨d, hd⟩ : ∃ d, Lib.compareInt a1 b1 = d := ⟨_, rfl⟩
  rw [hc] at HC1 ⊢
  rw [hd] at HC2 ⊢
  have HH1 := hid HC1
  have HH2 := hid HC2
  have HOr := hid (fun W => or_any c d (w.heap.size + 1 + 1) 2 W)
  obtain ⟨r, hr⟩ : ∃ r, (if c = 0 then d else c) = r := ⟨_, rfl⟩
  rw [hr] at HOr ⊢
  clear hc hd HC1 HC2 hr
  go_enter Try.func59, Try.ntmps59
  go_wp2
  go_region_law (first
    | (refine Kit.step_call1 rfl 40 (.tmp 15) 34 rfl (.slice (some ⟨w.heap.size + 1 + 1, 0, none⟩) 2 2) (by first | with_reducible rfl | (simp [go_sem]; done) | rfl) (cf_or _ _) _ (HOr.out _ (by simp; rw [World.cell?_alloc_at _ _ _ _ (by simp)]; rfl) (by simp; rw [World.cell?_alloc_at _ _ _ _ (by simp)]; rfl)) ?_; rintro e w3 ⟨rfl, rfl⟩; refine ⟨_, rfl, ?_⟩)
    | (refine Kit.step_call2 rfl 41 (.tmp 6) (.tmp 8) 3 3 rfl (.int .i64 a0) (.int .i64 b0) (by first | with_reducible rfl | (simp [go_sem]; done) | rfl) (by first | with_reducible rfl | (simp [go_sem]; done) | rfl) (cf_cmp _ _ _) _ (HH1.out _) ?_; rintro e w3 ⟨rfl, rfl⟩; refine ⟨_, rfl, ?_⟩)
    | (refine Kit.step_call2 rfl 41 (.tmp 11) (.tmp 13) 3 3 rfl (.int .i64 a1) (.int .i64 b1) (by first | with_reducible rfl | (simp [go_sem]; done) | rfl) (by first | with_reducible rfl | (simp [go_sem]; done) | rfl) (cf_cmp _ _ _) _ (HH2.out _) ?_; rintro e w3 ⟨rfl, rfl⟩; refine ⟨_, rfl, ?_⟩))
  all_goals
    go_wp2
    go_ret
    exact ⟨rfl, _, _, _, _, rfl⟩
end Go.Proofs.Ytdodobpbdnpjiaa
namespace Go.Proofs.Ytdodobpbdnpjiaa
open Go Go.RowKit
open Kit (natVals)
open Cf (Op5 Ca opL caL)

/-- A row of any cells, put in order. -/
theorem put_own {w : World} {base blk n cap sz : Nat} {e : TypeId} {xs : List Value} (h : w.ownsRow base e sz (.slice (some ⟨blk, 0, none⟩) n cap) n xs) (m : Nat) (A : Array Value) (os : Array Obj) (hA : A.size = n * sz) :
    (Sort.grow (Sort.putRow id (Sort.ahead w m) blk 0 A) os).ownsRow base e sz (.slice (some ⟨blk, 0, none⟩) n cap) n A.toList := by
  refine ⟨by simp [hA], .inr ?_⟩
  rcases h.2 with ⟨h2, -⟩ | ⟨g', cap', cur, hv, hg, hh, h1, h2, h3, h4⟩
  · cases h2
  · obtain ⟨e1, -, rfl⟩ := Value.slice.inj hv
    obtain rfl : blk = g' := by simpa using e1
    have hlt := (Array.getElem?_eq_some_iff.1 hh).1
    have hnc : n * sz ≤ cap * sz := Nat.mul_le_mul_right _ h1
    refine ⟨blk, cap, Sort.putCells id 0 A cur, rfl, hg, ?_, h1, h2, by simp [Sort.putCells, h3], ?_⟩
    · rw [Sort.heap_grow_old _ _ (by rw [size_putRow]; exact hlt)]
      unfold Sort.putRow Sort.mapBlock
      simp only [Array.getElem?_modify]
      rw [if_pos trivial]
      show Option.map _ w.heap[blk]? = _
      rw [hh]
      rfl
    · apply List.ext_getElem?
      intro k
      rw [List.getElem?_take]
      by_cases hk : k < n * sz
      · rw [if_pos hk]
        have hk2 : k < A.size := by omega
        have hk3 : k < cur.size := by rw [h3]; omega
        rw [Array.getElem?_toList]
        unfold Sort.putCells
        rw [Array.getElem?_mapIdx, Array.getElem?_eq_getElem hk3, Option.map_some, if_pos ⟨by omega, by omega⟩, Array.getElem?_toList, Array.getElem?_eq_getElem hk2, Nat.sub_zero, getElem!_pos A k hk2]
        rfl
      · rw [if_neg hk, Array.getElem?_toList, Array.getElem?_eq_none (by omega)]
theorem put_chg {w : World} {blk : Nat} (m : Nat) (A : Array Value) (os : Array Obj) : Chg (fun i => i = blk) w (Sort.grow (Sort.putRow id (Sort.ahead w m) blk 0 A) os) := by
  refine ⟨rfl, rfl, rfl, ?_, fun k hk hne => ?_⟩
  · rw [Sort.size_grow, size_putRow]
    show w.heap.size ≤ w.heap.size + _
    omega
  · rw [Sort.heap_grow_old _ _ (by rw [size_putRow]; exact hk)]
    unfold Sort.putRow Sort.mapBlock
    simp only [Array.getElem?_modify]
    rw [if_neg (fun e => hne e.symm)]
    rfl
theorem flat_list {α : Type} [Inhabited α] {enc : α → List Value} {s : Nat} (hs : ∀ x, (enc x).length = s) (h0 : 0 < s) (d : Array α) : (Sort.flatK enc s d).toList = d.toList.flatMap enc := by
  apply List.ext_getElem?
  intro t
  by_cases ht : t < d.size * s
  · have hd : t / s < d.size := (Nat.div_lt_iff_lt_mul h0).2 ht
    have hm : t % s < s := Nat.mod_lt _ h0
    have h1 := Kit.flat_at hs (l := d.toList) (k := t / s) (x := d[t / s]) (by simp [hd]) (t % s) hm
    rw [show t / s * s + t % s = t by rw [Nat.mul_comm]; exact Nat.div_add_mod t s] at h1
    rw [h1, Array.getElem?_toList, Array.getElem?_eq_getElem (by rw [Sort.size_flatK]; exact ht), ← getElem!_pos, Sort.get_flatK _ _ _ _ ht, getElem!_pos d _ hd, getElem!_pos (enc d[t / s]) (t % s) (by rw [hs]; exact hm), List.getElem?_eq_getElem]
  · rw [List.getElem?_eq_none (by rw [Array.length_toList, Sort.size_flatK]; omega), List.getElem?_eq_none (by rw [Kit.flat_len hs, Array.length_toList]; omega)]
def SpR (w : World) (base : Nat) (v : Value) (S : List Sp) : Prop := w.ownsRow base 91 3 v S.length (S.flatMap spL)
theorem SpR.at {w : World} {base : Nat} {v : Value} {S : List Sp} (h : SpR w base v S) {i : Nat} {s : Sp} (hi : S[i]? = some s) : ∃ b cap, v = .slice (some ⟨b, 0, none⟩) S.length cap ∧ b < w.heap.size ∧ w.cell? ⟨b, i * 3, none⟩ = some (.int .i64 s.1) ∧ w.cell? ⟨b, i * 3 + 1, none⟩ = some (.int .i64 s.2.1) ∧ w.cell? ⟨b, i * 3 + 2, none⟩ = some (.int .i64 s.2.2) := by
  have hk := (List.getElem?_eq_some_iff.1 hi).1
  rcases h.2 with ⟨-, h2⟩ | ⟨g, cap, cur, h1, hg, hh, hc1, hc2, hc3, ht⟩
  · omega
  · refine ⟨g, cap, h1, (Array.getElem?_eq_some_iff.1 hh).1, ?_⟩
    have hat : ∀ j, j < 3 → w.cell? ⟨g, i * 3 + j, none⟩ = (spL s)[j]? := fun j hj => by
      have hx2 := Kit.flat_at spL_len hi j hj
      have : cur[i * 3 + j]? = (spL s)[j]? := by
        rw [← ht, List.getElem?_take_of_lt (by omega)] at hx2
        simpa using hx2
      simp [World.cell?, hh, this]
    exact ⟨hat 0 (by omega), hat 1 (by omega), hat 2 (by omega)⟩
/-- slices.SortFunc at spans: the same ones, in whatever order. -/
theorem sortS_any {w : World} {base : Nat} {v : Value} {S : List Sp} (h : SpR w base v S) (hl : S.length ≤ 4294967296) :
    Calls Try.prog 58 #[v, .func (.func 59) #[] #[]] w fun e w' => e = .returned (.tuple #[]) ∧ ∃ S', S'.length = S.length ∧ (∀ s ∈ S', s ∈ S) ∧ SpR w' base v S' ∧ Chg (fun i => v.ownBlock = some i) w w' := by
  rcases h.2 with ⟨rfl, h0⟩ | ⟨g, cap, cur, rfl, hg, hh, hc1, hc2, hc3, ht⟩
  · refine (AnyF.slices_SortFunc_none Sh.sortS none 0 _ w).mono ?_
    rintro e w' ⟨rfl, rfl⟩
    exact ⟨rfl, S, rfl, fun s hs => hs, h, Chg.refl _ _⟩
  · have hfl : (Sort.flatK spL 3 S.toArray).toList = S.flatMap spL := flat_list spL_len (by omega) _
    have hH : Sort.HoldsK spL 3 w g 0 S.toArray := by
      intro j hj
      rw [Sort.size_flatK] at hj
      have hj2 : j < S.length * 3 := by simpa using hj
      have hx : (Sort.flatK spL 3 S.toArray)[j]? = some ((Sort.flatK spL 3 S.toArray)[j]!) := by rw [getElem!_pos _ j (by rw [Sort.size_flatK]; exact hj), Array.getElem?_eq_getElem]
      have hcur : cur[j]? = some ((Sort.flatK spL 3 S.toArray)[j]!) := by
        have h3 : (S.flatMap spL)[j]? = some ((Sort.flatK spL 3 S.toArray)[j]!) := by rw [← hfl, Array.getElem?_toList, hx]
        rw [← ht, List.getElem?_take_of_lt hj2] at h3
        simpa using h3
      rw [Nat.zero_add]
      exact ⟨by simp [World.cell?, hh, hcur], by simp [World.frozen?, hh]⟩
    have hcmp : CmpLays Try.prog 59 #[] spL 3 cfS g 0 S.toArray.size w := by
      intro m os dk _ x y
      refine (spans1_any x y _).mono ?_
      rintro e w' ⟨rfl, q, o1, o2, o3, rfl⟩
      refine ⟨rfl, q, #[o1] ++ #[o2] ++ #[o3], ?_⟩
      rw [Sort.alloc_eq_grow, Sort.alloc_eq_grow, Sort.alloc_eq_grow, Sort.grow_grow, Sort.grow_grow, Array.append_assoc]
    have hcon := AnyQ.slices_SortFunc Sh.sortS 3 Try.isAgg91 Try.sizeOf91 spL spL_len (by intro x v hv; simp [spL] at hv; rcases hv with rfl | rfl | rfl <;> rfl) cfS swoS 59 #[] g 0 cap S.toArray w
      (enters_of Try.func59 (by kernel_rfl) rfl) hcmp hH (Array.getElem?_eq_some_iff.1 hh).1 (by simp; omega)
    change Calls Try.prog 58 _ _ _ at hcon
    refine hcon.mono ?_
    rintro e w' ⟨rfl, d', n, os, ⟨p1, -, p2⟩, -, rfl⟩
    have hds : d'.size = S.length := by simpa using p1
    have e1 : (d'.extract 0 S.toArray.size) = d' := by rw [← p1]; simp
    have e2 : (S.toArray.extract 0 S.toArray.size) = S.toArray := by simp
    rw [e1, e2] at p2
    have hfl2 : (Sort.flatK spL 3 d').toList = d'.toList.flatMap spL := flat_list spL_len (by omega) _
    have o1 := put_own (show w.ownsRow base 91 3 (.slice (some ⟨g, 0, none⟩) S.length cap) S.length (S.flatMap spL) from h) n (Sort.flatK spL 3 d') os (by rw [Sort.size_flatK, hds])
    rw [hfl2] at o1
    refine ⟨rfl, d'.toList, by simpa using hds, fun s hs => by have := p2.mem_iff.1 hs; simpa using this, ?_, (put_chg n (Sort.flatK spL 3 d') os).mono (fun i _ e => by rw [e]; rfl)⟩
    unfold SpR
    have e3 : d'.toList.length = S.length := by simpa using hds
    rw [e3]
    exact o1
theorem infoSp : (Try.prog.info? 91).map (fun i => (i.zero, i.size, i.bytes)) = some (some (.agg #[.int .i64 0, .int .i64 0, .int .i64 0]), 3, 24) := by kernel_rfl
/-- A span that may be. -/
def GoodS (k n : Nat) (s : Sp) : Prop := ∃ t f e : Nat, s = ((t : Int), (f : Int), (e : Int)) ∧ t < k ∧ f ≤ n ∧ e ≤ n
def SpI (w : World) (k n m : Nat) (v : Value) (S : List Sp) (W : World) : Prop := SpR W w.heap.size v S ∧ S.length ≤ m ∧ (∀ s ∈ S, GoodS k n s) ∧ Below w.heap.size w W
section
variable {cb : Nat} {cov pv : Value} {L : List Op5} {P : List Nat}
set_option maxRecDepth 100000
set_option maxHeartbeats 2000000
theorem spans_any (hP : Cf.Pl (Cf.adr L) L.length P) {base ob k : Nat} {B : Nat → Bool} {cv : Value} {C : List Ca} {w : World} (hC : Code w cb cov pv L P) (hcs : CaS w cv C) (hof : w.ownsRow base 3 1 (.slice (some ⟨ob, 0, none⟩) L.length L.length) L.length (ivals (Cf.ofN B) L.length)) (hn : L.length ≤ 1048576) (hm : C.length ≤ 1048576)
    (hk : ∀ i, i < L.length → Cf.ofB B i < k) :
    Calls Try.prog 48 #[.pointer (some ⟨cb, 0, none⟩), .slice (some ⟨ob, 0, none⟩) L.length L.length, cv] w fun e w' => ∃ v S, e = .returned v ∧ SpI w k L.length C.length v S w' := by
  obtain ⟨i0, hi, hy0, hy1, hy2⟩ := info_parts infoSp
  obtain ⟨ca, ccap, rfl⟩ := Kit.IsS.len hcs
  have HCd := hid (fun W (hb : Below w.heap.size w W) => hC.below hb)
  have HCs := hid (fun W (hb : Below w.heap.size w W) => hcs.below hb)
  have HOf := hid (fun W (hb : Below w.heap.size w W) => Kit.owns_below hof hb (Nat.le_refl _))
  have HFi := hid (fun t W (hb : Below w.heap.size w W) => find_any hP hn t W (hC.below hb))
  have HFr := hid (fun t W (hb : Below w.heap.size w W) => from_any hP hn t W (hC.below hb))
  have HKo := hid (fun t => (Cf.find_is hP t (k := kOf L P t) rfl).1)
  have HI : Hid (SpI w k L.length 0 Nil [] w) := ⟨⟨rfl, .inl ⟨rfl, rfl⟩⟩, by simp, fun s hs => by simp at hs, Below.refl _ _⟩
  have HK := hid hk
  clear hC hcs hof hP hk
  go_enter Try.func48, Try.ntmps48
  go_wp2
  go_loopw [15, 7] (fun v u wr => ∃ (m : Nat) (S : List Sp), v = .int .i64 (m : Int) ∧ m ≤ C.length ∧ Hid (SpI w k L.length m u S wr)) (fun v _ _ => C.length - (intOf v).toNat)
  case atStart => exact ⟨0, [], rfl, by omega, HI⟩
  case round =>
    clear HI
    obtain ⟨m, S, rfl, hmm, HI⟩ := hrel
    have hbl := HI.out.2.2.2
    by_cases hlt : m < C.length
    · obtain ⟨c, hcx⟩ : ∃ c, C[m]? = some c := ⟨_, List.getElem?_eq_getElem hlt⟩
      obtain ⟨b, o, p, hv, hob, hc⟩ := (HCs.out wr hbl).at (by omega)
      obtain ⟨rfl, -, rfl⟩ := Value.slice.inj hv
      obtain ⟨c0, c1, c2, c3⟩ := hc m c hcx
      obtain ⟨cf, ct, ca, cc⟩ := c
      dsimp only at c0 c1 c2 c3
      have HFx := hid (HFi.out ca)
      have HFf := hid (HFr.out cf)
      have HFt := hid (HFr.out ct)
      obtain ⟨r, hr⟩ : ∃ r, Cf.first L ca = r := ⟨_, rfl⟩
      rw [hr] at HFx
      have HR := hid hr
      have hkf := HKo.out cf
      have hkt := HKo.out ct
      unfold fst at HFx
      unfold fromV at HFf HFt
      obtain ⟨kf, hkf2⟩ : ∃ x, kOf L P cf = x := ⟨_, rfl⟩
      obtain ⟨kt, hkt2⟩ : ∃ x, kOf L P ct = x := ⟨_, rfl⟩
      rw [hkf2] at HFf hkf
      rw [hkt2] at HFt hkt
      obtain ⟨bf, hbf⟩ : ∃ x, (decide (kf < L.length) && decide (Cf.adr L (P[kf]?.getD 0) = cf)) = x := ⟨_, rfl⟩
      obtain ⟨bt, hbt⟩ : ∃ x, (decide (kt < L.length) && decide (Cf.adr L (P[kt]?.getD 0) = ct)) = x := ⟨_, rfl⟩
      rw [hbf] at HFf
      rw [hbt] at HFt
      have hws := hbl.size
      have BC := hid (BX.new wr #[.int .i64 cf, .int .i64 ct, .int .i64 ca, .int .i64 cc] 86)
      obtain ⟨ua, ucap, rfl⟩ := own_form HI.out.1
      have HOw := hid (fun X (hb : Below wr.heap.size wr X) => Kit.owns_below HI.out.1 hb (Nat.le_refl _))
      have hSl := HI.out.2.1
      clear hc hv hcx hr hkf2 hkt2 hbf hbt
      cases r with
      | none =>
        go_wp2_with (go_at_call 45; refine (HFx.out _ (belows (a := w) hbl ((Below.refl _ _).alloc (Nat.le_refl _) _) hbl.size)).mono ?_; rintro e w1 ⟨rfl, hb⟩; have HB1 := hid hb; clear hb)
        go_roundw
        case rel =>
          have hb1 : Below wr.heap.size wr w1 := belows ((Below.refl _ _).alloc (Nat.le_refl _) _) HB1.out (by simp)
          exact ⟨m + 1, S, by go_num, by omega, Kit.owns_below HI.out.1 hb1 (Nat.le_refl _), by omega, HI.out.2.2.1, belows hbl hb1 hbl.size⟩
        case measure => simp [intOf]; omega
      | some q =>
        have hqn : q < L.length := Cf.first_lt HR.out
        have hofk := HK.out q hqn
        obtain ⟨tq, htq⟩ : ∃ tq, Cf.ofB B q = tq := ⟨_, rfl⟩
        have HTQ := hid htq
        rw [htq] at hofk
        have hGood : Hid (GoodS k L.length ((tq : Int), (kf : Int), (kt : Int))) := ⟨tq, kf, kt, rfl, hofk, hkf, hkt⟩
        clear htq
        go_upto_region 9 with (first
          | (go_at_call 45; refine (HFx.out _ (belows (a := w) hbl ((Below.refl _ _).alloc (Nat.le_refl _) _) hbl.size)).mono ?_; rintro e w1 ⟨rfl, hb⟩; have B1 := BC.out.below hb; have HBX1 := hid B1; have d0 : w1.cell? ⟨wr.heap.size, 0, none⟩ = some (.int .i64 cf) := B1.cell 0; have hz1 : wr.heap.size < w1.heap.size := B1.sz; have hb1 : Below wr.heap.size wr w1 := belows ((Below.refl _ _).alloc (Nat.le_refl _) _) hb (by simp); have HB1 := hid hb1; have e0 := (own_cell (HOf.out w1 (belows hbl hb1 hbl.size)) (ivals_at hqn)).1; have e1 : w1.cell? ⟨ob, q, none⟩ = some (.int .i64 (Cf.ofB B q : Int)) := e0; rw [HTQ.out] at e1; clear hb B1 hb1 e0)
          | (go_at_call 57; refine (HFf.out _ (belows (belows hbl HB1.out hbl.size) ((Below.refl _ _).alloc (Nat.le_refl _) _) (by omega))).mono ?_; rintro e w2 ⟨rfl, hb⟩; have B2 := (BX.new w1 #[.int .i64 (tq : Int), .int .i64 0, .int .i64 0] 91).below hb; have HBX2 := hid B2; have f1 := B2.cell 1; have f2 : w2.cell? ⟨w1.heap.size, 1, none⟩ = some (.int .i64 0) := f1; have f3 := B2.frozen 1; have hz2 : w1.heap.size < w2.heap.size := B2.sz; have HBC2 := hid ((HBX1.out.below ((Below.refl _ _).alloc (Nat.le_refl _) _)).below hb); have HB2 : Hid (Below w1.heap.size w1 w2) := belows ((Below.refl _ _).alloc (Nat.le_refl _) _) hb (by simp); clear hb B2 f1))
        refine region_named fun W3 hW3 => ?_
        have B3 : BX W3 w1.heap.size #[.int .i64 (tq : Int), .int .i64 (kf : Int), .int .i64 0] 91 := by rw [hW3]; exact box_set HBX2.out 1 _
        have hc3 : Chg (fun i => i = w1.heap.size) w2 W3 := by rw [hW3]; exact (Chg.refl (fun i => i = w1.heap.size) w2).set (p := ⟨w1.heap.size, 1, none⟩) (.inl rfl) _
        have BC3 := HBC2.out.chg hc3 (by omega)
        have hb3 : Below w1.heap.size w1 W3 := HB2.out.trans (hc3.to_below (fun j e => by omega) HB2.out.size)
        have g1 : W3.cell? ⟨wr.heap.size, 1, none⟩ = some (.int .i64 ct) := BC3.cell 1
        have hz3 := B3.sz
        have HBX3 := hid B3
        have HB3 := hid (belows (belows hbl HB1.out hbl.size) hb3 (by omega))
        have HB3r := hid (belows HB1.out hb3 (Nat.le_of_lt hz1))
        clear hW3 hc3 BC3 hb3 B3 d0 e1 f2 f3
        go_upto_region 10 with (go_at_call 57; refine (HFt.out _ HB3.out).mono ?_; rintro e w4 ⟨rfl, hb⟩; have B4 := HBX3.out.below hb; have HBX4 := hid B4; have f1 := B4.cell 2; have f2 : w4.cell? ⟨w1.heap.size, 2, none⟩ = some (.int .i64 0) := f1; have f3 := B4.frozen 2; have HB4 := hid hb; clear hb B4 f1)
        refine region_named fun W5 hW5 => ?_
        have B5 : BX W5 w1.heap.size #[.int .i64 (tq : Int), .int .i64 (kf : Int), .int .i64 (kt : Int)] 91 := by rw [hW5]; exact box_set HBX4.out 2 _
        have hc5 : Chg (fun i => i = w1.heap.size) w4 W5 := by rw [hW5]; exact (Chg.refl (fun i => i = w1.heap.size) w4).set (p := ⟨w1.heap.size, 2, none⟩) (.inl rfl) _
        have hb5 : Below w1.heap.size w4 W5 := hc5.to_below (fun j e => by omega) (by have := HB4.out.size; omega)
        have hb5r : Below wr.heap.size wr W5 := (belows HB3r.out HB4.out (by omega)).trans (hb5.mono (Nat.le_of_lt hz1))
        obtain ⟨m0, m1, m2⟩ : W5.cell? ⟨w1.heap.size, 0, none⟩ = some (.int .i64 (tq : Int)) ∧ W5.cell? ⟨w1.heap.size, 1, none⟩ = some (.int .i64 (kf : Int)) ∧ W5.cell? ⟨w1.heap.size, 2, none⟩ = some (.int .i64 (kt : Int)) := ⟨B5.cell 0, B5.cell 1, B5.cell 2⟩
        have hz5 := B5.sz
        have HB5r := hid hb5r
        have hws5 := hb5r.size
        clear hW5 hc5 hb5 B5 g1 f2 f3 hb5r
        go_wp2_with (at_builtin; go_loud (refine wpList_append_own _ rfl (.tmp 49) (.tmp 51) 88 rfl w.heap.size 91 i0 _ 3 24 Try.underlying88 hi hy0 hy1 hy2 rfl (by decide) (.slice ua S.length ucap) S.length _ rfl (HOw.out _ (belows HB5r.out ((Below.refl _ _).alloc (Nat.le_refl _) _) (by omega))) ⟨W5.heap.size, 0, none⟩ 1 1 [.int .i64 (tq : Int), .int .i64 (kf : Int), .int .i64 (kt : Int)] rfl rfl (news_of _ _ _) (by intro u hu; simp at hu; rcases hu with rfl | rfl | rfl <;> rfl) (by unfold maxLen; omega) (by omega) (by simp only [World.size_alloc]; omega) ?_; intro v6 w6 ho6 hg6 _; have HO6 : Hid (SpR w6 w.heap.size v6 (S ++ [((tq : Int), (kf : Int), (kt : Int))])) := (by show World.ownsRow _ _ _ _ _ _ _; rw [List.length_append, List.flatMap_append]; exact ho6); have HB6 : Hid (Below w.heap.size w w6) := below_app (belows (belows hbl HB5r.out hbl.size) ((Below.refl _ _).alloc (Nat.le_refl _) _) (by omega)) hg6 (by simp only [World.size_alloc]; omega) (fun j e => Kit.own_base HI.out.1 j e); clear ho6 hg6))
        go_roundw
        case rel => exact ⟨m + 1, _, by go_num, by omega, HO6.out, by rw [List.length_append]; simp; omega, fun s hs => by
          rcases List.mem_append.1 hs with h | h
          · exact HI.out.2.2.1 s h
          · rw [List.mem_singleton] at h
            rw [h]
            exact hGood.out, HB6.out⟩
        case measure => simp [intOf]; omega
    · obtain rfl : m = C.length := by omega
      have hSl := HI.out.2.1
      have HS := hid (sortS_any HI.out.1 (by omega))
      go_wp2_with (go_at_call 58; refine HS.out.mono ?_; rintro e w3 ⟨rfl, S', h1, h2, h3, h4⟩; have H1 := hid h1; have H2 := hid h2; have H3 := hid h3; have H4 := hid h4; clear h1 h2 h3 h4)
      go_ret
      exact ⟨_, S', rfl, H3.out, by rw [H1.out]; exact hSl, fun s hs => HI.out.2.2.1 s (H2.out s hs), hbl.trans (H4.out.to_below (fun j e => Kit.own_base HI.out.1 j e) hbl.size)⟩
end
end Go.Proofs.Ytdodobpbdnpjiaa
