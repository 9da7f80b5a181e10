/- Contract of Put. -/
import Derived.Test.YtljbcclfafndmaaDoorDa
import Derived.Test.YtljbcclfafndmaaDoorDb
namespace Go.Proofs.YtljbcclfafndmaaDoor
open Go.RowKit

attribute [local go_sem] Oper.semAt_some

/-- The bytes of entries that are told. -/
def encT {l : List Cp.C} (ys : List (Tx l)) : List Int := ys.flatMap fun x => encE x.1.2
theorem encT_snoc {l : List Cp.C} (ys : List (Tx l)) (x : Tx l) : encT (ys ++ [x]) = encT ys ++ encE x.1.2 := by
  unfold encT
  rw [List.flatMap_append]
  simp
/-- A pool's bytes. -/
def putB (l : List Cp.C) : List Int := bytesN l.length 2 ++ encT (told l l.length)
theorem encE_len (c : Cp.C) (h : c.s.size ≤ 255) : (encE c).length ≤ 300 := by
  unfold encE
  have := wd_le c.t
  simp only [List.length_cons, List.length_append, List.length_map, bytesN_len, bl_len]
  omega
theorem ck_size {l : List Cp.C} (h : CkIs l 0) : l.length ≤ 4096 ∧ ∀ (x : Tx l), ceOut x.1.2 = 0 := by
  rcases h with ⟨-, h⟩ | ⟨h1, ⟨-, h⟩ | ⟨-, -, -, h, -⟩⟩
  · omega
  · refine ⟨h1, fun x => ?_⟩
    obtain ⟨⟨k, c⟩, hx, ht⟩ := x
    dsimp only at hx ht ⊢
    have hk : k < l.length := by rw [List.getElem?_eq_some_iff] at hx; exact hx.1
    have h2 := h k hk
    unfold errAt at h2
    rw [hx] at h2
    dsimp only at h2
    by_cases hp : prevB l k = true
    · rw [if_pos hp] at h2
      by_cases hc : c = Cp.C0
      · rw [hc] at ht
        exact absurd rfl ht
      · rw [if_neg hc] at h2
        omega
    · rw [if_neg hp] at h2
      by_cases hl : c.t = 5 ∧ k = l.length - 1
      · rw [if_pos hl] at h2
        omega
      · rw [if_neg hl] at h2
        exact h2
  · exact absurd rfl h
theorem ce_size {c : Cp.C} (h : ceOut c = 0) : Cp.knownB c.t = true ∧ cutW c (Cp.wd c.t) = c ∧ c.s.size ≤ 255 ∧ Cp.plainB (Cp.bl c.s) = true := by
  unfold ceOut at h
  by_cases h1 : Cp.knownB c.t = false ∨ cutW c (Cp.wd c.t) ≠ c
  · rw [if_pos h1] at h
    omega
  · rw [if_neg h1] at h
    by_cases h2 : 255 < c.s.size ∨ Cp.plainB (Cp.bl c.s) = false
    · rw [if_pos h2] at h
      omega
    · refine ⟨?_, ?_, ?_, ?_⟩
      · cases h3 : Cp.knownB c.t
        · exact absurd (.inl h3) h1
        · rfl
      · exact Decidable.of_not_not fun h3 => h1 (.inr h3)
      · exact Nat.le_of_not_lt fun h3 => h2 (.inl h3)
      · cases h3 : Cp.plainB (Cp.bl c.s)
        · exact absurd (.inr h3) h2
        · rfl
theorem encT_len {l : List Cp.C} (h : ∀ (x : Tx l), ceOut x.1.2 = 0) : ∀ ys : List (Tx l), (encT ys).length ≤ 300 * ys.length
  | [] => by simp [encT]
  | x :: ys => by
    have h1 := encT_len h ys
    have h2 := encE_len x.1.2 (ce_size (h x)).2.2.1
    unfold encT at h1 ⊢
    rw [List.flatMap_cons, List.length_append, List.length_cons]
    omega
def PutPost (l : List Cp.C) (w : World) (e : Ending) (w' : World) : Prop :=
  ∃ er, CkIs l er ∧ (er ≠ 0 → e = .returned (.tuple #[.slice none 0 0, .int .i64 er])) ∧ (er = 0 → ∃ v, e = .returned (.tuple #[v, .int .i64 0]) ∧ OwnI w' w.heap.size v (putB l)) ∧ Below w.heap.size w w'
theorem own_others {w w' : World} {base : Nat} {v v' : Value} {l : List Int} (h : OwnI w base v l) (g : Kit.Grows w w' v v') : KeepsOthers w w' := by
  refine ⟨g.size, fun k o hk ho => ?_⟩
  refine (g.grown.block k (Array.getElem?_eq_some_iff.1 hk).1 ?_).trans hk
  intro e
  rcases h.2 with ⟨rfl, -⟩ | ⟨b, cap, cur, rfl, hg, hh, -⟩
  · simp [Value.ownBlock] at e
  · simp only [Value.ownBlock, Option.some.injEq] at e
    subst e
    rw [hh] at hk
    obtain rfl := Option.some.inj hk
    simp [Obj.isCells] at ho
/-- Memory that speaks of a row's cells. -/
theorem ownI_own {β : Type} (base : Nat) (v : β → Value) (l : β → List Int) : Own (fun s W => OwnI W base (v s) (l s)) := fun s X Y row hs hg hr => by
  refine World.ownsRow.kept hs hg ?_
  rcases hs.2 with ⟨h1, -⟩ | ⟨b, cap, cur, h1, hb, hh, -⟩
  · rw [h1]
    exact .inl rfl
  · rw [h1]
    refine .inr fun e => ?_
    obtain ⟨o, ho, hc⟩ := hr b (by rw [← e]; rfl)
    rw [hh] at ho
    obtain rfl := Option.some.inj ho
    simp [Obj.isCells] at hc
/-- Where Put's loop stands. -/
def PutI (l : List Cp.C) (B5 lo hi : Nat) (w : World) (pre : List (Tx l)) (W : World) : Prop :=
  ∃ u, Boxed W B5 22 u ∧ OwnI W w.heap.size u (bytesN l.length 2 ++ encT pre) ∧ (∀ k, u.ownBlock = some k → k ≠ B5 ∧ (k < lo ∨ hi ≤ k)) ∧ Below w.heap.size w W ∧ hi ≤ W.heap.size
theorem PutI.own {l : List Cp.C} {B5 lo hi n : Nat} {w : World} (hn : w.heap.size ≤ n) : OwnFrom n (PutI l B5 lo hi w) := by
  rintro pre A B row ⟨u, h1, h2, h3, h4, h5⟩ hg hr
  exact ⟨u, boxed_own _ _ (fun _ : Unit => u) () A B row h1 hg (fun r e => (hr r e).2), ownI_own _ (fun _ : Unit => u) (fun _ => _) () A B row h2 hg (fun r e => (hr r e).2), h3, h4.grown hg h4.size (fun k e => by have := (hr k e).1; omega), Nat.le_trans h5 hg.size⟩
theorem PutI.next {l : List Cp.C} {B5 lo hi : Nat} {w W W1 : World} {u u1 : Value} {L : List Int} {pre : List (Tx l)} {x : Tx l} (i5 : Boxed W B5 22 u) (ho : OwnI W w.heap.size u L) (hne : ∀ k, u.ownBlock = some k → k ≠ B5 ∧ (k < lo ∨ hi ≤ k))
    (hB : Below w.heap.size w W) (hh : hi ≤ W.heap.size) (hlo : B5 < lo) (hb5 : w.heap.size ≤ B5) (hL : L = bytesN l.length 2 ++ encT pre) (ho1 : OwnI W1 w.heap.size u1 (L ++ encE x.1.2)) (G : Kit.Grows W W1 u u1) :
    KeepsOthers W (W1.setCell ⟨B5, 0, none⟩ u1) ∧ Kp lo hi W (W1.setCell ⟨B5, 0, none⟩ u1) ∧ PutI l B5 lo hi w (pre ++ [x]) (W1.setCell ⟨B5, 0, none⟩ u1) := by
  have h5 : B5 < W.heap.size := (Array.getElem?_eq_some_iff.1 i5).1
  have hz := G.size
  have i5' : Boxed W1 B5 22 u := (G.grown.block B5 h5 (fun e => (hne B5 e.symm).1 rfl)).trans i5
  have hne1 : ∀ k, u1.ownBlock = some k → k ≠ B5 ∧ (k < lo ∨ hi ≤ k) := by
    intro k e
    rcases G.blk with e2 | ⟨j, hj, e2⟩
    · rw [e2] at e
      exact hne k e
    · rw [e2] at e
      have := Option.some.inj e
      omega
  refine ⟨(own_others ho G).trans (KeepsOthers.setCell _ _ _), ((Kp.refl lo hi W).grown G.grown hh (fun k e => (hne k e).2)).grown (grownBy_setCell' W1 ⟨B5, 0, none⟩ u1) (by omega) (fun k e => by cases e; exact .inl hlo), u1, i5'.set _, ?_, hne1, ?_, by rw [show (W1.setCell ⟨B5, 0, none⟩ u1).heap.size = W1.heap.size by simp]; omega⟩
  · rw [encT_snoc, ← List.append_assoc, ← hL]
    refine World.ownsRow.kept ho1 (grownBy_setCell' W1 ⟨B5, 0, none⟩ u1) (.inr fun e => ?_)
    exact (hne1 B5 e).1 rfl
  · exact (G.to_below hB hB.size (fun k e => Kit.own_base ho k e)).setCell (p := ⟨B5, 0, none⟩) hb5 _
set_option maxRecDepth 100000 in
set_option maxHeartbeats 2000000 in
theorem put_any (l : List Cp.C) (v : Value) (w : World) (ht : Tabs w) (hv : Kit.IsS 5 w v l.length (l.flatMap cL)) (hs : ∀ c ∈ l, c.s.size ≤ 140737488355328) : Calls Tryd.prog 14 #[v] w (PutPost l w) := by
  have hs0 := ht.size
  have HCk := hid (fun W (h : Below w.heap.size w W) => check_any l v W (ht.below h ht.size) (hv.below h (Nat.le_refl _)) hs)
  have HT := hid (fun W (h : Below w.heap.size w W) => ht.below h ht.size)
  have HV := hid (fun W (h : Below w.heap.size w W) => hv.below h (Nat.le_refl _))
  obtain ⟨a, cap, hv2⟩ := hv.len
  subst hv2
  have hlen := hv.2.1
  clear ht hv hs
  by_cases h0 : CkIs l 0
  case neg =>
    have H0 := hid h0
    clear h0
    go_enter Tryd.func14, Tryd.ntmps14
    go_wp2_with (go_at_call 17; refine (HCk.out _ (by repeat' first | with_reducible exact Below.refl _ _ | with_reducible assumption | with_reducible refine belows_drewN ?_ _ | with_reducible refine Below.drew ?_ | with_reducible refine Below.setCell ?_ ?_ _ | with_reducible refine Below.alloc ?_ ?_ _ | omega | (simp; done) | (simp; omega))).mono ?_; rintro e w1 ⟨er, hck, rfl, hb1⟩; have hne : (er != 0) = true := (by (simp; rintro rfl; exact H0.out hck)); have HK := hid hck; clear hck)
    go_ret2
    exact ⟨er, HK.out, fun _ => rfl, fun h => absurd (h ▸ HK.out) H0.out, (by repeat' first | with_reducible exact Below.refl _ _ | with_reducible assumption | with_reducible refine belows_drewN ?_ _ | with_reducible refine Below.drew ?_ | with_reducible refine Below.setCell ?_ ?_ _ | with_reducible refine Below.alloc ?_ ?_ _ | omega | (simp; done) | (simp; omega))⟩
  case pos =>
  have HS := hid (ck_size h0)
  have H0 := hid h0
  have hl4 := HS.out.1
  clear h0
  refine (callsIn_wide (n := 5)).1 ?_
  refine callsIn_of_wp_marks Tryd.func14 rfl trivial ?_ rfl
  simp only [Tryd.ntmps14, List.size_toArray, List.length_cons, List.length_nil, Nat.reduceAdd, Nat.reduceSub, Array.replicate_succ, Array.replicate_zero, List.push_toArray, List.append_toArray, List.nil_append, List.cons_append]
  gi_wp2_with (first
    | (refine ⟨trivial, ?_⟩; gi_at_call 17; refine (callsIn_wide.2 (HCk.out _ (by repeat' first | with_reducible exact Below.refl _ _ | with_reducible assumption | with_reducible refine belows_drewN ?_ _ | with_reducible refine Below.drew ?_ | with_reducible refine Below.setCell ?_ ?_ _ | with_reducible refine Below.alloc ?_ ?_ _ | omega | (simp; done) | (simp; omega)))).mono ?_; rintro e w1 ⟨er, hck, rfl, hb1⟩; obtain rfl := CkIs.det hck H0.out; clear hck; have hz1 := hb1.size)
    | (refine ⟨trivial, ?_⟩; gi_at_call 38; refine (callsIn_wide.2 (write_any w.heap.size [] _ l.length 2 w1 (nilI _ _) hz1 (by simp) (by omega))).mono ?_; rintro e w2 ⟨v2, rfl, ho2, G2⟩; rw [List.nil_append] at ho2; have hb2 := G2.to_below hb1 hz1 (by intro k hk; simp [Value.ownBlock] at hk); have hz2 := hb2.size; obtain ⟨g2, cap2, rfl⟩ := own_formI ho2 2 (bytesN_len _ _) (by decide))
    | (refine ⟨trivial, ?_⟩; gi_at_call 39; refine (callsIn_wide.2 (all_any l _ _ (HV.out _ (by repeat' first | with_reducible exact Below.refl _ _ | with_reducible assumption | with_reducible refine belows_drewN ?_ _ | with_reducible refine Below.drew ?_ | with_reducible refine Below.setCell ?_ ?_ _ | with_reducible refine Below.alloc ?_ ?_ _ | omega | (simp; done) | (simp; omega))) (by omega))).mono ?_; rintro e w3 ⟨v3, rfl, hX, hb3, hz3⟩))
  have j5 : Boxed w3 w2.heap.size 22 (.slice (some ⟨g2, 0, none⟩) 2 cap2) := (hb3.block w2.heap.size (by simp)).trans (Boxed.new w2 _ _)
  have hb3' := hb3
  simp only [World.size_alloc] at hb3' hz3 hX
  have o3 : OwnI w3 w.heap.size (.slice (some ⟨g2, 0, none⟩) 2 cap2) (bytesN l.length 2) := Kit.owns_below (World.ownsRow.alloc ho2 _) hb3 (Nat.le_refl _)
  have hg2 := Kit.own_lt ho2
  have hB3 : Below w.heap.size w w3 := belows (hb2.alloc hz2 _) hb3 (by simp only [World.size_alloc]; omega)
  have HW := hid (fun (x : Tx l) => (ce_size (HS.out.2 x)).2.2.1)
  have HL := hid (encT_len HS.out.2)
  have hkX : Hid (∀ X, Kp (w2.heap.size + 1) w3.heap.size w3 X → Kit.IsS 5 X v3 l.length (l.flatMap cL) ∧ X.cell? ⟨w2.heap.size + 1, 0, none⟩ = some v3) := hX
  have hB3z := hB3.size
  clear hX hb1 hb2 hb3 hb3' ho2 G2
  refine wpIn_rangeFunc_ownH rfl (by omega) (gf := 54) (lb := #[.pointer (some ⟨w2.heap.size + 1, 0, none⟩)]) rfl trivial (enters_of Tryd.func54 (by kernel_rfl) rfl)
    (all1_stops l v3 (w2.heap.size + 1) (w2.heap.size + 1) (5 - 1) w3 (by omega) hkX.out) (fun h k => Kp.trans h k) (Kp.putObj (Nat.le_refl _)) (Below.refl _ _) (fun _ => rfl)
    (PutI l w2.heap.size (w2.heap.size + 1) w3.heap.size w) (fun _ _ _ => False) (PutI.own hB3.size) (fun _ _ _ _ _ h _ _ => h)
    ⟨_, j5, by simpa [encT] using o3, fun k e => ?_, hB3, Nat.le_refl _⟩
    (fun x a' W => ∃ Bx, w3.heap.size ≤ Bx ∧ BX W Bx (cC x.1.2) 46 ∧ a' = { tmps := #[.slice a l.length cap, undef, .slice none 0 0, .int .i64 0, .int .i64 0, .pointer (some ⟨w2.heap.size, 0, none⟩), undef, .pointer (some ⟨Bx, 0, none⟩), .slice a l.length cap, .int .i64 0, .int .i64 0, .bool false, undef, .slice a l.length cap, .int .i64 l.length, .slice (some ⟨g2, 0, none⟩) 2 cap2, .slice a l.length cap, .func (.func 54) #[] #[.pointer (some ⟨w2.heap.size + 1, 0, none⟩)], .int .i64 (x.1.1 : Int), .agg (cC x.1.2), undef, undef, undef, undef], defers := [] })
    (fun x a' => Own.from (fun s A B row hs hg hr => by
      obtain ⟨Bx, h1, h2, h3⟩ := hs
      exact ⟨Bx, h1, (hg.block Bx h2.sz (fun e => by obtain ⟨o, ho, hc⟩ := hr Bx e.symm; rw [show A.heap[Bx]? = _ from h2] at ho; cases ho; cases hc)).trans h2, h3⟩) _) ?assign ?body ?done ?stop
  case assign =>
    rintro D pre ⟨⟨k, ct, cs, cn, ca, cb⟩, hx⟩ W K hI hK
    unfold entE cC
    gi_wp2
    exact hK _ _ ((KeepsOthers.alloc _ _).from _) ((Kp.refl _ _ W).below ((Below.refl W.heap.size W).alloc (Nat.le_refl _) _) (by obtain ⟨u, -, -, -, -, h⟩ := hI; exact h)) ((PutI.own hB3.size).alloc _ hI) ⟨W.heap.size, (by obtain ⟨u, -, -, -, -, h⟩ := hI; exact h), BX.new W _ _, rfl⟩
  case body =>
    rintro D pre ⟨⟨k, ct, cs, cn, ca, cb⟩, hx⟩ a' W hl ⟨r, hr⟩ ⟨u, i5, ho, hne, hB, hh⟩ ⟨Bx, hBx, bX, rfl⟩ hlt
    have hlb := HL.out pre
    have hcs := HW.out ⟨(k, ⟨ct, cs, cn, ca, cb⟩), hx⟩
    have H2 : (bytesN (l.length : Int) 2).length = 2 := bytesN_len _ _
    obtain ⟨L, hL⟩ : ∃ L, L = bytesN l.length 2 ++ encT pre := ⟨_, rfl⟩
    have hLl : L.length = 2 + (encT pre).length := by rw [hL, List.length_append, H2]
    rw [← hL] at ho
    obtain ⟨n, hn⟩ : ∃ n, L.length = n := ⟨_, rfl⟩
    obtain ⟨g5, cap5, rfl⟩ := own_formI ho n hn (by omega)
    have c5 := i5.cell
    have x0 := bX.cell 0
    have x1 := bX.cell 1
    have x2 := bX.cell 2
    have x3 := bX.cell 3
    have x4 := bX.cell 4
    have hbz := hB.size
    have HC := hid (writeEntry_any w.heap.size L (.slice (some ⟨g5, 0, none⟩) n cap5) ⟨ct, cs, cn, ca, cb⟩ W (HT.out W hB) ho hbz (by omega) hcs)
    have HN := hid (fun W1 u1 => PutI.next (l := l) (W1 := W1) (u1 := u1) (x := ⟨(k, ⟨ct, cs, cn, ca, cb⟩), hx⟩) i5 ho hne hB hh (Nat.lt_succ_self _) hz2 hL)
    have hf5 := hne
    have hne5 : g5 ≠ w2.heap.size := (hne g5 (by simp [Value.ownBlock])).1
    have h5lt := (Array.getElem?_eq_some_iff.1 i5).1
    have I5 := hid i5
    unfold cC at x0 x1 x2 x3 x4 HC ⊢
    simp at x0 x1 x2 x3 x4
    clear hne hL ho hr hlb hf5 hLl H2 i5 hlt bX
    dsimp only
    gi_wp2
    refine ⟨trivial, ?_⟩
    refine (CallsIn.inRound D (callsIn_wide.2 HC.out)).mono ?_
    rintro e W1 ⟨u1, rfl, ho1, G1⟩
    have HE := hid (HN.out W1 u1 ho1 G1)
    have hz7 := G1.size
    obtain ⟨g6, cap6, rfl⟩ := own_formI ho1 (n + (encE ⟨ct, cs, cn, ca, cb⟩).length) (by rw [List.length_append, hn]) (by unfold encE; rw [List.length_cons]; omega)
    have hne6 : some w2.heap.size ≠ (Value.slice (some ⟨g5, 0, none⟩) n cap5).ownBlock := by
      intro e
      have e2 : w2.heap.size = g5 := by simpa [Value.ownBlock] using e
      omega
    have i6 : Boxed W1 w2.heap.size 22 (.slice (some ⟨g5, 0, none⟩) n cap5) := (G1.grown.block w2.heap.size h5lt hne6).trans I5.out
    have c6 := i6.cell
    have f6 := i6.frozen
    gi_wp2
    exact ⟨HE.out.1.from _, HE.out.2.1, HE.out.2.2⟩
  case done =>
    rintro D ys W hD rfl ⟨u, i5, ho, hne, hB, hh⟩ hK
    have c5 := i5.cell
    have H2 : (bytesN (l.length : Int) 2).length = 2 := bytesN_len _ _
    obtain ⟨g5, cap5, rfl⟩ := own_formI ho _ rfl (by rw [List.length_append, H2]; omega)
    have HO := hid (fun W' (hg : W.grownBy W' (some D)) => ownI_own w.heap.size (fun _ : Unit => _) (fun _ => _) () W W' (some D) ho hg (fun r e => by cases e; exact ⟨_, hK, rfl⟩))
    obtain ⟨n, hn⟩ : ∃ n, (bytesN (l.length : Int) 2 ++ encT (told l l.length)).length = n := ⟨_, rfl⟩
    rw [hn] at c5 HO
    clear hne ho i5
    gi_wp2
    refine ⟨by simp, .inl ⟨_, _, rfl, run_takeDeferred hK, ?_⟩⟩
    refine ⟨.tuple #[.slice (some ⟨g5, 0, none⟩) n cap5, .int .i64 0], ?_, 0, H0.out, fun h => absurd rfl h, fun _ => ⟨_, rfl, HO.out _ (grownBy_putObj' _ D (.deferred none))⟩, hB.trans (belowK_b (w := w) (Nat.le_refl _) _ D _ _ (by omega) hK rfl rfl)⟩
    simp [results, Tryd.f14, go_sem]
  case stop =>
    rintro D c pre W hD _ h
    exact h.elim
  · have : g2 = k := by simpa [Value.ownBlock] using e
    have := hg2 k e
    omega
end Go.Proofs.YtljbcclfafndmaaDoor
