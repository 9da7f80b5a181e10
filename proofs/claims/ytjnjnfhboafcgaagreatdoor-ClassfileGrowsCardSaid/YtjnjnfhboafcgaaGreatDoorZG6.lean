/- Own texts for the claim, part 6. -/
import Derived.Test.YtjnjnfhboafcgaaGreatDoorZG5
import Derived.Deep.Upon
namespace Go.Proofs.YtjnjnfhboafcgaaGreatDoor.L3
open Go.RowKit

attribute [local go_sem] Oper.semAt_some

/-- The bytes of entries that are told. -/
def encT {l : List Cp.C} (ys : List (Tx l)) : List Int := ys.flatMap fun x => encE x.1.2
theorem encT_snoc {l : List Cp.C} (ys : List (Tx l)) (x : Tx l) : encT (ys ++ [x]) = encT ys ++ encE x.1.2 := by
  unfold encT
  rw [List.flatMap_append]
  simp
/-- A pool's bytes. -/
def putB (l : List Cp.C) : List Int := bytesN l.length 2 ++ encT (told l l.length)
theorem encE_len (c : Cp.C) (h : c.s.size ≤ 255) : (encE c).length ≤ 300 := by
  unfold encE
  have := wd_le c.t
  simp only [List.length_cons, List.length_append, List.length_map, bytesN_len, bl_len]
  omega
theorem ck_size {l : List Cp.C} (h : CkIs l 0) : l.length ≤ 4096 ∧ ∀ (x : Tx l), ceOut x.1.2 = 0 := by
  rcases h with ⟨-, h⟩ | ⟨h1, ⟨-, h⟩ | ⟨-, -, -, h, -⟩⟩
  · omega
  · refine ⟨h1, fun x => ?_⟩
    obtain ⟨⟨k, c⟩, hx, ht⟩ := x
    dsimp only at hx ht ⊢
    have hk : k < l.length := by rw [List.getElem?_eq_some_iff] at hx; exact hx.1
    have h2 := h k hk
    unfold errAt at h2
    rw [hx] at h2
    dsimp only at h2
    by_cases hp : prevB l k = true
    · rw [if_pos hp] at h2
      by_cases hc : c = Cp.C0
      · rw [hc] at ht
        exact absurd rfl ht
      · rw [if_neg hc] at h2
        omega
    · rw [if_neg hp] at h2
      by_cases hl : c.t = 5 ∧ k = l.length - 1
      · rw [if_pos hl] at h2
        omega
      · rw [if_neg hl] at h2
        exact h2
  · exact absurd rfl h
theorem ce_size {c : Cp.C} (h : ceOut c = 0) : Cp.knownB c.t = true ∧ cutW c (Cp.wd c.t) = c ∧ c.s.size ≤ 255 ∧ Cp.plainB (Cp.bl c.s) = true := by
  unfold ceOut at h
  by_cases h1 : Cp.knownB c.t = false ∨ cutW c (Cp.wd c.t) ≠ c
  · rw [if_pos h1] at h
    omega
  · rw [if_neg h1] at h
    by_cases h2 : 255 < c.s.size ∨ Cp.plainB (Cp.bl c.s) = false
    · rw [if_pos h2] at h
      omega
    · refine ⟨?_, ?_, ?_, ?_⟩
      · cases h3 : Cp.knownB c.t
        · exact absurd (.inl h3) h1
        · rfl
      · exact Decidable.of_not_not fun h3 => h1 (.inr h3)
      · exact Nat.le_of_not_lt fun h3 => h2 (.inl h3)
      · cases h3 : Cp.plainB (Cp.bl c.s)
        · exact absurd (.inr h3) h2
        · rfl
theorem encT_len {l : List Cp.C} (h : ∀ (x : Tx l), ceOut x.1.2 = 0) : ∀ ys : List (Tx l), (encT ys).length ≤ 300 * ys.length
  | [] => by simp [encT]
  | x :: ys => by
    have h1 := encT_len h ys
    have h2 := encE_len x.1.2 (ce_size (h x)).2.2.1
    unfold encT at h1 ⊢
    rw [List.flatMap_cons, List.length_append, List.length_cons]
    omega
def PutPost (l : List Cp.C) (w : World) (e : Ending) (w' : World) : Prop :=
  ∃ er, CkIs l er ∧ (er ≠ 0 → e = .returned (.tuple #[.slice none 0 0, .int .i64 er])) ∧ (er = 0 → ∃ v, e = .returned (.tuple #[v, .int .i64 0]) ∧ OwnI w' w.heap.size v (putB l)) ∧ Below w.heap.size w w'
theorem own_others {w w' : World} {base : Nat} {v v' : Value} {l : List Int} (h : OwnI w base v l) (g : Kit.Grows w w' v v') : KeepsOthers w w' := by
  refine ⟨g.size, fun k o hk ho => ?_⟩
  refine (g.grown.block k (Array.getElem?_eq_some_iff.1 hk).1 ?_).trans hk
  intro e
  rcases h.2 with ⟨rfl, -⟩ | ⟨b, cap, cur, rfl, hg, hh, -⟩
  · simp [Value.ownBlock] at e
  · simp only [Value.ownBlock, Option.some.injEq] at e
    subst e
    rw [hh] at hk
    obtain rfl := Option.some.inj hk
    simp [Obj.isCells] at ho
/-- Memory that speaks of a row's cells. -/
theorem ownI_own {β : Type} (base : Nat) (v : β → Value) (l : β → List Int) : Own (fun s W => OwnI W base (v s) (l s)) := fun s X Y row hs hg hr => by
  refine World.ownsRow.kept hs hg ?_
  rcases hs.2 with ⟨h1, -⟩ | ⟨b, cap, cur, h1, hb, hh, -⟩
  · rw [h1]
    exact .inl rfl
  · rw [h1]
    refine .inr fun e => ?_
    obtain ⟨o, ho, hc⟩ := hr b (by rw [← e]; rfl)
    rw [hh] at ho
    obtain rfl := Option.some.inj ho
    simp [Obj.isCells] at hc
/-- Where Put's loop stands. -/
def PutI (l : List Cp.C) (B5 lo hi : Nat) (w : World) (pre : List (Tx l)) (W : World) : Prop :=
  ∃ u, Boxed W B5 22 u ∧ OwnI W w.heap.size u (bytesN l.length 2 ++ encT pre) ∧ (∀ k, u.ownBlock = some k → k ≠ B5 ∧ (k < lo ∨ hi ≤ k)) ∧ Below w.heap.size w W ∧ hi ≤ W.heap.size
theorem PutI.own {l : List Cp.C} {B5 lo hi n : Nat} {w : World} (hn : w.heap.size ≤ n) : OwnFrom n (PutI l B5 lo hi w) := by
  rintro pre A B row ⟨u, h1, h2, h3, h4, h5⟩ hg hr
  exact ⟨u, boxed_own _ _ (fun _ : Unit => u) () A B row h1 hg (fun r e => (hr r e).2), ownI_own _ (fun _ : Unit => u) (fun _ => _) () A B row h2 hg (fun r e => (hr r e).2), h3, h4.grown hg h4.size (fun k e => by have := (hr k e).1; omega), Nat.le_trans h5 hg.size⟩
theorem PutI.next {l : List Cp.C} {B5 lo hi : Nat} {w W W1 : World} {u u1 : Value} {L : List Int} {pre : List (Tx l)} {x : Tx l} (i5 : Boxed W B5 22 u) (ho : OwnI W w.heap.size u L) (hne : ∀ k, u.ownBlock = some k → k ≠ B5 ∧ (k < lo ∨ hi ≤ k))
    (hB : Below w.heap.size w W) (hh : hi ≤ W.heap.size) (hlo : B5 < lo) (hb5 : w.heap.size ≤ B5) (hL : L = bytesN l.length 2 ++ encT pre) (ho1 : OwnI W1 w.heap.size u1 (L ++ encE x.1.2)) (G : Kit.Grows W W1 u u1) :
    KeepsOthers W (W1.setCell ⟨B5, 0, none⟩ u1) ∧ Kp lo hi W (W1.setCell ⟨B5, 0, none⟩ u1) ∧ PutI l B5 lo hi w (pre ++ [x]) (W1.setCell ⟨B5, 0, none⟩ u1) := by
  have h5 : B5 < W.heap.size := (Array.getElem?_eq_some_iff.1 i5).1
  have hz := G.size
  have i5' : Boxed W1 B5 22 u := (G.grown.block B5 h5 (fun e => (hne B5 e.symm).1 rfl)).trans i5
  have hne1 : ∀ k, u1.ownBlock = some k → k ≠ B5 ∧ (k < lo ∨ hi ≤ k) := by
    intro k e
    rcases G.blk with e2 | ⟨j, hj, e2⟩
    · rw [e2] at e
      exact hne k e
    · rw [e2] at e
      have := Option.some.inj e
      omega
  refine ⟨(own_others ho G).trans (KeepsOthers.setCell _ _ _), ((Kp.refl lo hi W).grown G.grown hh (fun k e => (hne k e).2)).grown (grownBy_setCell' W1 ⟨B5, 0, none⟩ u1) (by omega) (fun k e => by cases e; exact .inl hlo), u1, i5'.set _, ?_, hne1, ?_, by rw [show (W1.setCell ⟨B5, 0, none⟩ u1).heap.size = W1.heap.size by simp]; omega⟩
  · rw [encT_snoc, ← List.append_assoc, ← hL]
    refine World.ownsRow.kept ho1 (grownBy_setCell' W1 ⟨B5, 0, none⟩ u1) (.inr fun e => ?_)
    exact (hne1 B5 e).1 rfl
  · exact (G.to_below hB hB.size (fun k e => Kit.own_base ho k e)).setCell (p := ⟨B5, 0, none⟩) hb5 _
set_option maxRecDepth 100000 in
set_option maxHeartbeats 2000000 in
theorem put_any (l : List Cp.C) (v : Value) (w : World) (ht : Tabs w) (hv : Kit.IsS 5 w v l.length (l.flatMap cL)) (hs : ∀ c ∈ l, c.s.size ≤ 140737488355328) : Calls Tryz.prog 44 #[v] w (PutPost l w) := by
  have hs0 := ht.size
  have HCk := hid (fun W (h : Below w.heap.size w W) => check_any l v W (ht.below h ht.size) (hv.below h (Nat.le_refl _)) hs)
  have HT := hid (fun W (h : Below w.heap.size w W) => ht.below h ht.size)
  have HV := hid (fun W (h : Below w.heap.size w W) => hv.below h (Nat.le_refl _))
  obtain ⟨a, cap, hv2⟩ := hv.len
  subst hv2
  have hlen := hv.2.1
  clear ht hv hs
  by_cases h0 : CkIs l 0
  case neg =>
    have H0 := hid h0
    clear h0
    go_enter Tryz.func44, Tryz.ntmps44
    go_wp2_with (go_at_call 85; refine (HCk.out _ (by repeat' first | with_reducible exact Below.refl _ _ | with_reducible assumption | with_reducible refine belows_drewN ?_ _ | with_reducible refine Below.drew ?_ | with_reducible refine Below.setCell ?_ ?_ _ | with_reducible refine Below.alloc ?_ ?_ _ | omega | (simp; done) | (simp; omega))).mono ?_; rintro e w1 ⟨er, hck, rfl, hb1⟩; have hne : (er != 0) = true := (by (simp; rintro rfl; exact H0.out hck)); have HK := hid hck; clear hck)
    go_ret2
    exact ⟨er, HK.out, fun _ => rfl, fun h => absurd (h ▸ HK.out) H0.out, (by repeat' first | with_reducible exact Below.refl _ _ | with_reducible assumption | with_reducible refine belows_drewN ?_ _ | with_reducible refine Below.drew ?_ | with_reducible refine Below.setCell ?_ ?_ _ | with_reducible refine Below.alloc ?_ ?_ _ | omega | (simp; done) | (simp; omega))⟩
  case pos =>
  have HS := hid (ck_size h0)
  have H0 := hid h0
  have hl4 := HS.out.1
  clear h0
  refine (callsIn_wide (n := 5)).1 ?_
  refine callsIn_of_wp_marks Tryz.func44 rfl trivial ?_ rfl
  simp only [Tryz.ntmps44, List.size_toArray, List.length_cons, List.length_nil, Nat.reduceAdd, Nat.reduceSub, Array.replicate_succ, Array.replicate_zero, List.push_toArray, List.append_toArray, List.nil_append, List.cons_append]
  gi_wp2_with (first
    | (refine ⟨trivial, ?_⟩; gi_at_call 85; refine (callsIn_wide.2 (HCk.out _ (by repeat' first | with_reducible exact Below.refl _ _ | with_reducible assumption | with_reducible refine belows_drewN ?_ _ | with_reducible refine Below.drew ?_ | with_reducible refine Below.setCell ?_ ?_ _ | with_reducible refine Below.alloc ?_ ?_ _ | omega | (simp; done) | (simp; omega)))).mono ?_; rintro e w1 ⟨er, hck, rfl, hb1⟩; obtain rfl := CkIs.det hck H0.out; clear hck; have hz1 := hb1.size)
    | (refine ⟨trivial, ?_⟩; gi_at_call 86; refine (callsIn_wide.2 (write_any w.heap.size [] _ l.length 2 w1 (nilI _ _) hz1 (by simp) (by omega))).mono ?_; rintro e w2 ⟨v2, rfl, ho2, G2⟩; rw [List.nil_append] at ho2; have hb2 := G2.to_below hb1 hz1 (by intro k hk; simp [Value.ownBlock] at hk); have hz2 := hb2.size; obtain ⟨g2, cap2, rfl⟩ := own_formI ho2 2 (bytesN_len _ _) (by decide))
    | (refine ⟨trivial, ?_⟩; gi_at_call 87; refine (callsIn_wide.2 (all_any l _ _ (HV.out _ (by repeat' first | with_reducible exact Below.refl _ _ | with_reducible assumption | with_reducible refine belows_drewN ?_ _ | with_reducible refine Below.drew ?_ | with_reducible refine Below.setCell ?_ ?_ _ | with_reducible refine Below.alloc ?_ ?_ _ | omega | (simp; done) | (simp; omega))) (by omega))).mono ?_; rintro e w3 ⟨v3, rfl, hX, hb3, hz3⟩))
  have j5 : Boxed w3 w2.heap.size 22 (.slice (some ⟨g2, 0, none⟩) 2 cap2) := (hb3.block w2.heap.size (by simp)).trans (Boxed.new w2 _ _)
  have hb3' := hb3
  simp only [World.size_alloc] at hb3' hz3 hX
  have o3 : OwnI w3 w.heap.size (.slice (some ⟨g2, 0, none⟩) 2 cap2) (bytesN l.length 2) := Kit.owns_below (World.ownsRow.alloc ho2 _) hb3 (Nat.le_refl _)
  have hg2 := Kit.own_lt ho2
  have hB3 : Below w.heap.size w w3 := belows (hb2.alloc hz2 _) hb3 (by simp only [World.size_alloc]; omega)
  have HW := hid (fun (x : Tx l) => (ce_size (HS.out.2 x)).2.2.1)
  have HL := hid (encT_len HS.out.2)
  have hkX : Hid (∀ X, Kp (w2.heap.size + 1) w3.heap.size w3 X → Kit.IsS 5 X v3 l.length (l.flatMap cL) ∧ X.cell? ⟨w2.heap.size + 1, 0, none⟩ = some v3) := hX
  have hB3z := hB3.size
  clear hX hb1 hb2 hb3 hb3' ho2 G2
  refine wpIn_rangeFunc_ownH rfl (by omega) (gf := 143) (lb := #[.pointer (some ⟨w2.heap.size + 1, 0, none⟩)]) rfl trivial (enters_of Tryz.func143 (by kernel_rfl) rfl)
    (all1_stops l v3 (w2.heap.size + 1) (w2.heap.size + 1) (5 - 1) w3 (by omega) hkX.out) (fun h k => Kp.trans h k) (Kp.putObj (Nat.le_refl _)) (Below.refl _ _) (fun _ => rfl)
    (PutI l w2.heap.size (w2.heap.size + 1) w3.heap.size w) (fun _ _ _ => False) (PutI.own hB3.size) (fun _ _ _ _ _ h _ _ => h)
    ⟨_, j5, by simpa [encT] using o3, fun k e => ?_, hB3, Nat.le_refl _⟩
    (fun x a' W => ∃ Bx, w3.heap.size ≤ Bx ∧ BX W Bx (cC x.1.2) 56 ∧ a' = { tmps := #[.slice a l.length cap, undef, .slice none 0 0, .int .i64 0, .int .i64 0, .pointer (some ⟨w2.heap.size, 0, none⟩), undef, .pointer (some ⟨Bx, 0, none⟩), .slice a l.length cap, .int .i64 0, .int .i64 0, .bool false, undef, .slice a l.length cap, .int .i64 l.length, .slice (some ⟨g2, 0, none⟩) 2 cap2, .slice a l.length cap, .func (.func 143) #[] #[.pointer (some ⟨w2.heap.size + 1, 0, none⟩)], .int .i64 (x.1.1 : Int), .agg (cC x.1.2), undef, undef, undef, undef], defers := [] })
    (fun x a' => Own.from (fun s A B row hs hg hr => by
      obtain ⟨Bx, h1, h2, h3⟩ := hs
      exact ⟨Bx, h1, (hg.block Bx h2.sz (fun e => by obtain ⟨o, ho, hc⟩ := hr Bx e.symm; rw [show A.heap[Bx]? = _ from h2] at ho; cases ho; cases hc)).trans h2, h3⟩) _) ?assign ?body ?done ?stop
  case assign =>
    rintro D pre ⟨⟨k, ct, cs, cn, ca, cb⟩, hx⟩ W K hI hK
    unfold entE cC
    gi_wp2
    exact hK _ _ ((KeepsOthers.alloc _ _).from _) ((Kp.refl _ _ W).below ((Below.refl W.heap.size W).alloc (Nat.le_refl _) _) (by obtain ⟨u, -, -, -, -, h⟩ := hI; exact h)) ((PutI.own hB3.size).alloc _ hI) ⟨W.heap.size, (by obtain ⟨u, -, -, -, -, h⟩ := hI; exact h), BX.new W _ _, rfl⟩
  case body =>
    rintro D pre ⟨⟨k, ct, cs, cn, ca, cb⟩, hx⟩ a' W hl ⟨r, hr⟩ ⟨u, i5, ho, hne, hB, hh⟩ ⟨Bx, hBx, bX, rfl⟩ hlt
    have hlb := HL.out pre
    have hcs := HW.out ⟨(k, ⟨ct, cs, cn, ca, cb⟩), hx⟩
    have H2 : (bytesN (l.length : Int) 2).length = 2 := bytesN_len _ _
    obtain ⟨L, hL⟩ : ∃ L, L = bytesN l.length 2 ++ encT pre := ⟨_, rfl⟩
    have hLl : L.length = 2 + (encT pre).length := by rw [hL, List.length_append, H2]
    rw [← hL] at ho
    obtain ⟨n, hn⟩ : ∃ n, L.length = n := ⟨_, rfl⟩
    obtain ⟨g5, cap5, rfl⟩ := own_formI ho n hn (by omega)
    have c5 := i5.cell
    have x0 := bX.cell 0
    have x1 := bX.cell 1
    have x2 := bX.cell 2
    have x3 := bX.cell 3
    have x4 := bX.cell 4
    have hbz := hB.size
    have HC := hid (writeEntry_any w.heap.size L (.slice (some ⟨g5, 0, none⟩) n cap5) ⟨ct, cs, cn, ca, cb⟩ W (HT.out W hB) ho hbz (by omega) hcs)
    have HN := hid (fun W1 u1 => PutI.next (l := l) (W1 := W1) (u1 := u1) (x := ⟨(k, ⟨ct, cs, cn, ca, cb⟩), hx⟩) i5 ho hne hB hh (Nat.lt_succ_self _) hz2 hL)
    have hf5 := hne
    have hne5 : g5 ≠ w2.heap.size := (hne g5 (by simp [Value.ownBlock])).1
    have h5lt := (Array.getElem?_eq_some_iff.1 i5).1
    have I5 := hid i5
    unfold cC at x0 x1 x2 x3 x4 HC ⊢
    simp at x0 x1 x2 x3 x4
    clear hne hL ho hr hlb hf5 hLl H2 i5 hlt bX
    dsimp only
    gi_wp2
    refine ⟨trivial, ?_⟩
    refine (CallsIn.inRound D (callsIn_wide.2 HC.out)).mono ?_
    rintro e W1 ⟨u1, rfl, ho1, G1⟩
    have HE := hid (HN.out W1 u1 ho1 G1)
    have hz7 := G1.size
    obtain ⟨g6, cap6, rfl⟩ := own_formI ho1 (n + (encE ⟨ct, cs, cn, ca, cb⟩).length) (by rw [List.length_append, hn]) (by unfold encE; rw [List.length_cons]; omega)
    have hne6 : some w2.heap.size ≠ (Value.slice (some ⟨g5, 0, none⟩) n cap5).ownBlock := by
      intro e
      have e2 : w2.heap.size = g5 := by simpa [Value.ownBlock] using e
      omega
    have i6 : Boxed W1 w2.heap.size 22 (.slice (some ⟨g5, 0, none⟩) n cap5) := (G1.grown.block w2.heap.size h5lt hne6).trans I5.out
    have c6 := i6.cell
    have f6 := i6.frozen
    gi_wp2
    exact ⟨HE.out.1.from _, HE.out.2.1, HE.out.2.2⟩
  case done =>
    rintro D ys W hD rfl ⟨u, i5, ho, hne, hB, hh⟩ hK
    have c5 := i5.cell
    have H2 : (bytesN (l.length : Int) 2).length = 2 := bytesN_len _ _
    obtain ⟨g5, cap5, rfl⟩ := own_formI ho _ rfl (by rw [List.length_append, H2]; omega)
    have HO := hid (fun W' (hg : W.grownBy W' (some D)) => ownI_own w.heap.size (fun _ : Unit => _) (fun _ => _) () W W' (some D) ho hg (fun r e => by cases e; exact ⟨_, hK, rfl⟩))
    obtain ⟨n, hn⟩ : ∃ n, (bytesN (l.length : Int) 2 ++ encT (told l l.length)).length = n := ⟨_, rfl⟩
    rw [hn] at c5 HO
    clear hne ho i5
    gi_wp2
    refine ⟨by simp, .inl ⟨_, _, rfl, run_takeDeferred hK, ?_⟩⟩
    refine ⟨.tuple #[.slice (some ⟨g5, 0, none⟩) n cap5, .int .i64 0], ?_, 0, H0.out, fun h => absurd rfl h, fun _ => ⟨_, rfl, HO.out _ (grownBy_putObj' _ D (.deferred none))⟩, hB.trans (belowK_b (w := w) (Nat.le_refl _) _ D _ _ (by omega) hK rfl rfl)⟩
    simp [results, Tryz.f44, go_sem]
  case stop =>
    rintro D c pre W hD _ h
    exact h.elim
  · have : g2 = k := by simpa [Value.ownBlock] using e
    have := hg2 k e
    omega
end Go.Proofs.YtjnjnfhboafcgaaGreatDoor.L3
namespace Go.Proofs.YtjnjnfhboafcgaaGreatDoor.L3
open Go.RowKit

/-- A number of 64 bits. -/
def I6 (z : Int) : Prop := -9223372036854775808 ≤ z ∧ z ≤ 9223372036854775807
/-- What the document asks of an entry's parts. -/
def eOk (t : Int) (s : ByteArray) (n a b : Int) : Prop := (n = 0 ∨ t = 5 ∨ (t = 3 ∧ n = IntKind.i32.wrap n)) ∧ (a = 0 ∨ (7 ≤ t ∧ 0 < a ∧ a ≤ 65535)) ∧ (b = 0 ∨ (7 < t ∧ 0 < b ∧ b ≤ 65535)) ∧ (t = 1 ∨ s = ⟨#[]⟩)
theorem sgn_0 (z : Int) : sgn z 0 = 0 := rfl
theorem sgn_4 (z : Int) : sgn z 4 = IntKind.i32.wrap z := rfl
theorem sgn_8 {z : Int} (h : I6 z) : sgn z 8 = z := by
  unfold I6 at h
  show IntKind.i64.wrap z = z
  exact IntWalk.i64_in _ (by omega)
theorem uns_2 (z : Int) : uns z 2 = z ↔ (z = 0 ∨ (0 < z ∧ z ≤ 65535)) := by
  show z % 65536 = z ↔ _
  omega
theorem cut_ok {t : Int} {s : ByteArray} {n a b : Int} (hk : Cp.knownB t = true) (hn : I6 n) : cutW ⟨t, s, n, a, b⟩ (Cp.wd t) = ⟨t, s, n, a, b⟩ ↔ eOk t s n a b := by
  unfold Cp.knownB at hk
  have hk2 := of_decide_eq_true hk
  unfold cutW eOk
  simp only [Cp.C.mk.injEq, true_and]
  have e8 := sgn_8 hn
  have e4 := sgn_4 n
  have e0 := sgn_0 n
  have u2 := uns_2 a
  have v2 := uns_2 b
  have u0 : uns a 0 = 0 := rfl
  have v0 : uns b 0 = 0 := rfl
  generalize hs0 : (⟨#[]⟩ : ByteArray) = s0
  have hw : (n = 0 ∨ n = IntKind.i32.wrap n) ↔ n = IntKind.i32.wrap n := by
    constructor
    · rintro (rfl | h)
      · rfl
      · exact h
    · exact .inr
  rcases hk2 with rfl | rfl | rfl | rfl | rfl | rfl | rfl
  all_goals simp [Cp.wd, e8, e4, e0, u2, v2, u0, v0, hw, eq_comm]
  all_goals simp only [and_comm, and_left_comm, and_assoc]
theorem ce_yes {t : Int} {s : ByteArray} {n a b : Int} (hk : Cp.knownB t = true) (hn : I6 n) (h : eOk t s n a b) : ceOut ⟨t, s, n, a, b⟩ = if (Cp.plainB (Cp.bl s) && decide (s.size ≤ 255)) = true then 0 else 32 := by
  unfold ceOut
  rw [if_neg (by rintro (e | e); rw [hk] at e; cases e; exact e ((cut_ok hk hn).2 h))]
  dsimp only
  cases Cp.plainB (Cp.bl s) with
  | false => simp
  | true =>
    by_cases h1 : s.size ≤ 255
    · rw [if_neg (by rintro (h | h); omega; cases h)]; simp [h1]
    · rw [if_pos (.inl (by omega))]; simp [h1]
end Go.Proofs.YtjnjnfhboafcgaaGreatDoor.L3
namespace Go.Proofs.YtjnjnfhboafcgaaGreatDoor.L3
open Go.RowKit

theorem bytesN_0 (z : Int) : bytesN z 0 = [] := rfl
theorem enc_text {t : Int} (s : ByteArray) (n a b : Int) (h : t = 1) : encE ⟨t, s, n, a, b⟩ = [t % 256] ++ bytesN s.size 2 ++ ((Cp.bl s).map fun b => (b.toNat : Int)) := by
  subst h
  unfold encE
  simp [Cp.wd, bytesN_0]
theorem enc_num {t : Int} (n a b : Int) (k : Nat) (h : Cp.wd t = (0, k, 0, 0)) : encE ⟨t, ⟨#[]⟩, n, a, b⟩ = [t % 256] ++ bytesN n k := by
  unfold encE
  simp [h, bytesN_0, Cp.bl]
theorem enc_one {t : Int} (n a b : Int) (h : t = 7) : encE ⟨t, ⟨#[]⟩, n, a, b⟩ = [t % 256] ++ bytesN a 2 := by
  subst h
  unfold encE
  simp [Cp.wd, bytesN_0, Cp.bl]
theorem enc_two {t : Int} (n a b : Int) (h : t = 9 ∨ t = 10 ∨ t = 12) : encE ⟨t, ⟨#[]⟩, n, a, b⟩ = [t % 256] ++ bytesN a 2 ++ bytesN b 2 := by
  unfold encE
  rcases h with rfl | rfl | rfl <;> simp [Cp.wd, bytesN_0, Cp.bl]
/-- Where writing an entry stands: the bytes so far, and the box. -/
structure PSt (w : World) (base : Nat) (v0 : Value) (C : Array Value) (W : World) (v : Value) (l : List Int) : Prop where
  own : OwnI W base v l
  gr : Kit.Grows w W v0 v
  bc : BX W w.heap.size C 56
  ne : ∀ k, v.ownBlock = some k → k ≠ w.heap.size
  le : base ≤ W.heap.size
theorem PSt.step {w : World} {base : Nat} {v0 : Value} {C : Array Value} {W W' : World} {v v' : Value} {l l' : List Int} (h : PSt w base v0 C W v l) (ho : OwnI W' base v' l') (g : Kit.Grows W W' v v') : PSt w base v0 C W' v' l' := by
  refine ⟨ho, h.gr.trans g, h.bc.grown g.grown ?_, ?_, Nat.le_trans h.le g.size⟩
  · intro e
    exact h.ne _ e rfl
  · intro k e
    have h1 := h.bc.sz
    rcases g.blk with e2 | ⟨j, hj, e2⟩
    · rw [e2] at e
      exact h.ne k e
    · rw [e2] at e
      have := Option.some.inj e
      omega
theorem PSt.drew {w : World} {base : Nat} {v0 : Value} {C : Array Value} {W : World} {v : Value} {l : List Int} (h : PSt w base v0 C W v l) : PSt w base v0 C W.drew v l :=
  ⟨World.ownsRow.drew h.own, ⟨⟨h.gr.grown.os, h.gr.grown.tape, h.gr.grown.output, h.gr.grown.size, h.gr.grown.block⟩, h.gr.blk⟩, h.bc, h.ne, h.le⟩
theorem PSt.cells {w : World} {base : Nat} {v0 : Value} {c0 c1 c2 c3 c4 : Value} {W : World} {v : Value} {l : List Int} (h : PSt w base v0 #[c0, c1, c2, c3, c4] W v l) :
    W.cell? ⟨w.heap.size, 0, none⟩ = some c0 ∧ W.cell? ⟨w.heap.size, 1, none⟩ = some c1 ∧ W.cell? ⟨w.heap.size, 2, none⟩ = some c2 ∧ W.cell? ⟨w.heap.size, 3, none⟩ = some c3 ∧ W.cell? ⟨w.heap.size, 4, none⟩ = some c4 :=
  ⟨h.bc.cell 0, h.bc.cell 1, h.bc.cell 2, h.bc.cell 3, h.bc.cell 4⟩
theorem PSt.first {w w2 : World} {base : Nat} {v v1 : Value} {l : List Int} {z : Int} {C : Array Value} (hb : base ≤ w.heap.size) (hlt : ∀ k, v.ownBlock = some k → k < w.heap.size) (ho : w2.ownsRow base 5 1 v1 (l.length + 1) (l.map (Value.int .u8) ++ [.int .u8 z])) (hg : ((w.alloc (.cells C 56)).alloc (.cells #[.int .u8 z] 5)).grownBy w2 v.ownBlock) (hk : v1.ownBlock = v.ownBlock ∨ v1.ownBlock = some (w.heap.size + 1 + 1)) : PSt w base v C w2 v1 (l ++ [z]) := by
  have B1 : Below w.heap.size w ((w.alloc (.cells C 56)).alloc (.cells #[.int .u8 z] 5)) := ((Below.refl _ w).alloc (Nat.le_refl _) _).alloc (by simp) _
  have hzg := hg.size
  simp only [World.size_alloc] at hzg
  have bc1 : BX ((w.alloc (.cells C 56)).alloc (.cells #[.int .u8 z] 5)) w.heap.size C 56 := (BX.new w C 56).below ((Below.refl (w.heap.size + 1) _).alloc (by simp) _) (by omega)
  refine ⟨OwnI.snoc ho, Kit.grows_append B1 hg (by simpa using hk), bc1.grown hg ?_, ?_, by omega⟩
  · intro e
    have := hlt _ e
    omega
  · intro k e
    rcases hk with h | h
    · rw [h] at e
      have := hlt _ e
      omega
    · rw [h] at e
      have := Option.some.inj e
      omega
theorem news_two (w : World) (o : Obj) (v : Value) (t : TypeId) : ∀ j u, [v][j]? = some u → ((w.alloc o).alloc (.cells #[v] t)).cell? ((⟨w.heap.size + 1, 0, none⟩ : Addr).add j) = some u := by
  have hn := Kit.news_one (w.alloc o) v t
  rw [World.size_alloc] at hn
  exact hn
end Go.Proofs.YtjnjnfhboafcgaaGreatDoor.L3
namespace Go.Proofs.YtjnjnfhboafcgaaGreatDoor.L3
open Go.RowKit

attribute [local go_sem] Oper.semAt_some

/-- What Find answers. -/
def FiIs (l : List Cp.C) (c : Cp.C) (r : Nat) (b : Bool) : Prop := (b = false ∧ r = 0 ∧ ∀ j, 1 ≤ j → c.t ≠ 0 → l[j]? ≠ some c) ∨ (b = true ∧ 1 ≤ r ∧ c.t ≠ 0 ∧ l[r]? = some c ∧ ∀ j, 1 ≤ j → j < r → l[j]? ≠ some c)
theorem FiIs.det {l : List Cp.C} {c : Cp.C} {r r' : Nat} {b b' : Bool} (h : FiIs l c r b) (k : FiIs l c r' b') : r = r' ∧ b = b' := by
  rcases h with ⟨rfl, rfl, h⟩ | ⟨rfl, h1, h2, h3, h⟩
  · rcases k with ⟨rfl, rfl, k⟩ | ⟨rfl, k1, k2, k3, k⟩
    · exact ⟨rfl, rfl⟩
    · exact absurd k3 (h _ k1 k2)
  · rcases k with ⟨rfl, rfl, k⟩ | ⟨rfl, k1, k2, k3, k⟩
    · exact absurd h3 (k _ h1 h2)
    · refine ⟨?_, rfl⟩
      rcases Nat.lt_trichotomy r r' with hlt | e | hlt
      · exact absurd h3 (k r h1 hlt)
      · exact e
      · exact absurd k3 (h r' k1 hlt)
theorem told_cases (l : List Cp.C) (k : Nat) : told l (k + 1) = told l k ∨ ∃ x : Tx l, x.1.1 = k ∧ told l (k + 1) = told l k ++ [x] := by
  cases h : l[k]? with
  | none =>
    refine .inl ?_
    show told l k ++ _ = _
    split
    · rename_i d hd
      rw [h] at hd
      cases hd
    · rw [List.append_nil]
  | some c =>
    by_cases hc : c.t = 0
    · exact .inl (told_no h hc)
    · exact .inr ⟨⟨(k, c), h, hc⟩, rfl, told_yes h hc⟩
/-- What is told ahead of an entry is all that lies ahead of it. -/
theorem told_last {l : List Cp.C} : ∀ {k : Nat} {pre : List (Tx l)} {x : Tx l}, told l k = pre ++ [x] → pre = told l x.1.1 ∧ x.1.1 < k
  | 0, pre, x, h => by
    have := congrArg List.length h
    simp [told] at this
  | k + 1, pre, x, h => by
    rcases told_cases l k with e | ⟨y, hy, e⟩
    · rw [e] at h
      have := told_last h
      exact ⟨this.1, by omega⟩
    · rw [e] at h
      obtain ⟨h1, h2⟩ := List.append_inj' h rfl
      obtain rfl : y = x := by simpa using h2
      rw [hy]
      exact ⟨h1.symm, by omega⟩
theorem told_mem {l : List Cp.C} {j : Nat} {c : Cp.C} (h : l[j]? = some c) (hc : c.t ≠ 0) : ∀ {k : Nat}, j < k → (⟨(j, c), h, hc⟩ : Tx l) ∈ told l k
  | 0, hk => absurd hk (by omega)
  | k + 1, hk => by
    by_cases hj : j = k
    · subst hj
      rw [told_yes h hc]
      simp
    · rcases told_cases l k with e | ⟨y, hy, e⟩
      · rw [e]; exact told_mem h hc (by omega)
      · rw [e]; exact List.mem_append_left _ (told_mem h hc (by omega))
/-- Two entries that differ. -/
theorem c_ne {x c : Cp.C} (h : x ≠ c) : (¬ x.t = c.t) ∨ (x.t = c.t ∧ (x.s.toList == c.s.toList) = false) ∨ (x.t = c.t ∧ x.s = c.s ∧ ¬ x.n = c.n) ∨ (x.t = c.t ∧ x.s = c.s ∧ x.n = c.n ∧ ¬ x.a = c.a) ∨ (x.t = c.t ∧ x.s = c.s ∧ x.n = c.n ∧ x.a = c.a ∧ ¬ x.b = c.b) := by
  obtain ⟨t, s, n, a, b⟩ := x
  obtain ⟨t', s', n', a', b'⟩ := c
  dsimp only
  by_cases e1 : t = t'
  · by_cases e2 : s = s'
    · by_cases e3 : n = n'
      · by_cases e4 : a = a'
        · by_cases e5 : b = b'
          · exact absurd (by rw [e1, e2, e3, e4, e5]) h
          · exact .inr (.inr (.inr (.inr ⟨e1, e2, e3, e4, e5⟩)))
        · exact .inr (.inr (.inr (.inl ⟨e1, e2, e3, e4⟩)))
      · exact .inr (.inr (.inl ⟨e1, e2, e3⟩))
    · refine .inr (.inl ⟨e1, ?_⟩)
      rw [beq_eq_false_iff_ne, ne_eq, ByteArray.toList_eq, ByteArray.toList_eq]
      intro e
      exact e2 (ba_ext e)
  · exact .inl e1
def FiPost (l : List Cp.C) (c : Cp.C) (w : World) (e : Ending) (w' : World) : Prop := ∃ (r : Nat) (b : Bool), FiIs l c r b ∧ e = .returned (.tuple #[.int .i64 (r : Nat), .bool b]) ∧ Below w.heap.size w w'
end Go.Proofs.YtjnjnfhboafcgaaGreatDoor.L3
namespace Go.Proofs.YtjnjnfhboafcgaaGreatDoor.L3
open Go.RowKit

attribute [local go_sem] Oper.semAt_some

theorem bx_own {β : Type} (B : Nat) (C : Array Value) (t : TypeId) : Own (fun (_ : β) W => BX W B C t) := fun s X Y row hs hg hr =>
  (hg.block B hs.sz (fun e => by obtain ⟨o, ho, hc⟩ := hr B e.symm; rw [show X.heap[B]? = _ from hs] at ho; cases ho; cases hc)).trans hs
/-- Where Find's loop stands. -/
def FiJ {l : List Cp.C} (c : Cp.C) (hi : Nat) (w : World) (pre : List (Tx l)) (W : World) : Prop :=
  BX W w.heap.size (cC c) 56 ∧ Boxed W (w.heap.size + 1) 3 (.int .i64 0) ∧ Boxed W (w.heap.size + 1 + 1) 4 (.bool false) ∧ Hid (∀ x ∈ pre, ¬ (0 < x.1.1 ∧ x.1.2 = c)) ∧ Below w.heap.size w W ∧ hi ≤ W.heap.size
theorem FiJ.own {l : List Cp.C} {c : Cp.C} {hi n : Nat} {w : World} (hn : w.heap.size ≤ n) : OwnFrom n (FiJ (l := l) c hi w) := by
  rintro pre A B row ⟨h0, h1, h2, h3, h4, h5⟩ hg hr
  exact ⟨bx_own _ _ _ () A B row h0 hg (fun r e => (hr r e).2), boxed_own _ _ (fun _ : Unit => .int .i64 0) () A B row h1 hg (fun r e => (hr r e).2), boxed_own _ _ (fun _ : Unit => .bool false) () A B row h2 hg (fun r e => (hr r e).2), h3, h4.grown hg h4.size (fun k e => by have := (hr k e).1; omega), Nat.le_trans h5 hg.size⟩
/-- Where Find's loop stands when it stops. -/
def FiX {l : List Cp.C} (c : Cp.C) (w : World) (pre : List (Tx l)) (W : World) : Prop :=
  ∃ x p, Boxed W (w.heap.size + 1) 3 (.int .i64 (x.1.1 : Nat)) ∧ Boxed W (w.heap.size + 1 + 1) 4 (.bool true) ∧ pre = p ++ [x] ∧ 0 < x.1.1 ∧ x.1.2 = c ∧ (∀ y ∈ p, ¬ (0 < y.1.1 ∧ y.1.2 = c)) ∧ Below w.heap.size w W
theorem FiX.own {l : List Cp.C} {c : Cp.C} {n : Nat} {w : World} (hn : w.heap.size ≤ n) : OwnFrom n (FiX (l := l) c w) := by
  rintro pre A B row ⟨x, p, h1, h2, h3, h4, h5, h6, h7⟩ hg hr
  exact ⟨x, p, boxed_own _ _ (fun _ : Unit => .int .i64 (x.1.1 : Nat)) () A B row h1 hg (fun r e => (hr r e).2), boxed_own _ _ (fun _ : Unit => .bool true) () A B row h2 hg (fun r e => (hr r e).2), h3, h4, h5, h6, h7.grown hg h7.size (fun k e => by have := (hr k e).1; omega)⟩
theorem FiX.is {l : List Cp.C} {c : Cp.C} {w W : World} {k : Nat} (h : FiX c w (told l k) W) : ∃ r, FiIs l c r true ∧ Boxed W (w.heap.size + 1) 3 (.int .i64 (r : Nat)) ∧ Boxed W (w.heap.size + 1 + 1) 4 (.bool true) ∧ Below w.heap.size w W := by
  obtain ⟨x, p, h1, h2, h3, h4, h5, h6, h7⟩ := h
  obtain ⟨hp, -⟩ := told_last h3
  refine ⟨x.1.1, .inr ⟨rfl, h4, h5 ▸ x.2.2, h5 ▸ x.2.1, fun j hj hlt hc => ?_⟩, h1, h2, h7⟩
  have hm := told_mem hc (h5 ▸ x.2.2) hlt
  rw [← hp] at hm
  exact h6 _ hm ⟨hj, rfl⟩
theorem FiJ.no {l : List Cp.C} {c : Cp.C} (h : ∀ x ∈ told l l.length, ¬ (0 < x.1.1 ∧ x.1.2 = c)) : FiIs l c 0 false := by
  refine .inl ⟨rfl, rfl, fun j hj ht hc => ?_⟩
  have hlt : j < l.length := by rw [List.getElem?_eq_some_iff] at hc; exact hc.1
  exact h _ (told_mem hc ht hlt) ⟨hj, rfl⟩
theorem fi_snoc {l : List Cp.C} {c : Cp.C} {pre : List (Tx l)} {x : Tx l} (h : ∀ y ∈ pre, ¬ (0 < y.1.1 ∧ y.1.2 = c)) (hx : ¬ (0 < x.1.1 ∧ x.1.2 = c)) : ∀ y ∈ pre ++ [x], ¬ (0 < y.1.1 ∧ y.1.2 = c) := by
  intro y hy
  rcases List.mem_append.1 hy with hy | hy
  · exact h y hy
  · obtain rfl : y = x := by simpa using hy
    exact hx
set_option maxRecDepth 100000 in
set_option maxHeartbeats 4000000 in
theorem find_any (l : List Cp.C) (c : Cp.C) (v : Value) (w : World) (hv : Kit.IsS 5 w v l.length (l.flatMap cL)) (hn : l.length * 48 ≤ 140737488355328) :
    Calls Tryz.prog 93 #[v, .agg (cC c)] w (FiPost l c w) := by
  have HV := hid (fun W (h : Below w.heap.size w W) => hv.below h (Nat.le_refl _))
  obtain ⟨a, cap, hv2⟩ := hv.len
  subst hv2
  have hlen := hv.2.1
  clear hv
  refine (callsIn_wide (n := 5)).1 ?_
  refine callsIn_of_wp_marks Tryz.func93 rfl trivial ?_ rfl
  simp only [Tryz.ntmps93, List.size_toArray, List.length_cons, List.length_nil, Nat.reduceAdd, Nat.reduceSub, Array.replicate_succ, Array.replicate_zero, List.push_toArray, List.append_toArray, List.nil_append, List.cons_append]
  obtain ⟨t, s, n, ca, cb⟩ := c
  unfold cC
  dsimp only
  gi_wp2_with (refine ⟨trivial, ?_⟩; gi_at_call 87; refine (callsIn_wide.2 (all_any l _ _ (HV.out _ (by repeat' first | with_reducible exact Below.refl _ _ | with_reducible assumption | with_reducible refine belows_drewN ?_ _ | with_reducible refine Below.drew ?_ | with_reducible refine Below.setCell ?_ ?_ _ | with_reducible refine Below.alloc ?_ ?_ _ | omega | (simp; done) | (simp; omega))) hn)).mono ?_; rintro e w3 ⟨v3, rfl, hX, hb3, hz3⟩)
  obtain ⟨C, hC⟩ : ∃ C : Array Value, C = #[.int .i64 t, .string s, .int .i64 n, .int .i64 ca, .int .i64 cb] := ⟨_, rfl⟩
  have hCc : cC ⟨t, s, n, ca, cb⟩ = C := hC.symm
  rw [← hC] at hX hb3 hz3
  have hbA : Below (w.heap.size + 1) (w.alloc (.cells C 56)) w3 := belows (((Below.refl (w.heap.size + 1) (w.alloc (.cells C 56))).alloc (by simp) _).alloc (by simp) _) hb3 (by simp only [World.size_alloc]; omega)
  have bc : BX w3 w.heap.size C 56 := (BX.new w C 56).below hbA (by omega)
  have i1 : Boxed w3 (w.heap.size + 1) 3 (.int .i64 0) := (hb3.block (w.heap.size + 1) (by simp only [World.size_alloc]; omega)).trans (by have := (Boxed.new (w.alloc (.cells C 56)) 3 (.int .i64 0)).alloc (.cells #[.bool false] 4); rw [World.size_alloc] at this; exact this)
  have i2 : Boxed w3 (w.heap.size + 1 + 1) 4 (.bool false) := (hb3.block (w.heap.size + 1 + 1) (by simp only [World.size_alloc]; omega)).trans (by have := Boxed.new ((w.alloc (.cells C 56)).alloc (.cells #[.int .i64 0] 3)) 4 (.bool false); rw [World.size_alloc, World.size_alloc] at this; exact this)
  simp only [World.size_alloc] at hz3 hX
  have hB3 : Below w.heap.size w w3 := belows ((Below.refl _ w).alloc (Nat.le_refl _) (.cells C 56)) (by rw [World.size_alloc]; exact hbA) (by rw [World.size_alloc]; omega)
  have hkX : Hid (∀ X, Kp (w.heap.size + 1 + 1 + 1) w3.heap.size w3 X → Kit.IsS 5 X v3 l.length (l.flatMap cL) ∧ X.cell? ⟨w.heap.size + 1 + 1 + 1, 0, none⟩ = some v3) := hX
  have hB3z := hB3.size
  clear hX hb3 hbA
  refine wpIn_rangeFunc_ownH rfl (by omega) (gf := 143) (lb := #[.pointer (some ⟨w.heap.size + 1 + 1 + 1, 0, none⟩)]) rfl trivial (enters_of Tryz.func143 (by kernel_rfl) rfl)
    (all1_stops l v3 (w.heap.size + 1 + 1 + 1) (w.heap.size + 1 + 1 + 1) (5 - 1) w3 (by omega) hkX.out) (fun h k => Kp.trans h k) (Kp.putObj (Nat.le_refl _)) (Below.refl _ _) (fun _ => rfl)
    (FiJ ⟨t, s, n, ca, cb⟩ w3.heap.size w) (fun c' pre W => c' = .ret ∧ FiX ⟨t, s, n, ca, cb⟩ w pre W) (FiJ.own hB3.size) (fun c' pre A B row h hg hr => ⟨h.1, FiX.own hB3.size pre A B row h.2 hg hr⟩)
    ⟨hCc ▸ bc, i1, i2, hid (fun x hx => by cases hx), hB3, Nat.le_refl _⟩
    (fun x a' W => ∃ Bx, w3.heap.size ≤ Bx ∧ BX W Bx (cC x.1.2) 56 ∧ a' = { tmps := #[.slice a l.length cap, .agg #[.int .i64 t, .string s, .int .i64 n, .int .i64 ca, .int .i64 cb], undef, .pointer (some ⟨w.heap.size, 0, none⟩), .pointer (some ⟨w.heap.size + 1, 0, none⟩), .pointer (some ⟨w.heap.size + 1 + 1, 0, none⟩), .int .i64 (x.1.1 : Int), .pointer (some ⟨Bx, 0, none⟩), .slice a l.length cap, .func (.func 143) #[] #[.pointer (some ⟨w.heap.size + 1 + 1 + 1, 0, none⟩)], .int .i64 (x.1.1 : Int), .agg (cC x.1.2), undef, undef, undef, undef, undef, undef, undef, undef], defers := [] })
    (fun x a' => Own.from (fun s A B row hs hg hr => by
      obtain ⟨Bx, h1, h2, h3⟩ := hs
      exact ⟨Bx, h1, bx_own _ _ _ s A B row h2 hg hr, h3⟩) _) ?assign ?body ?done ?stop
  case assign =>
    rintro D pre ⟨⟨k, xt, xs, xn, xa, xb⟩, hx⟩ W K hI hK
    unfold entE cC
    gi_wp2
    exact hK _ _ ((KeepsOthers.alloc _ _).from _) ((Kp.refl _ _ W).below ((Below.refl W.heap.size W).alloc (Nat.le_refl _) _) (by obtain ⟨-, -, -, -, -, h⟩ := hI; exact h)) ((FiJ.own hB3.size).alloc _ hI) ⟨W.heap.size, (by obtain ⟨-, -, -, -, -, h⟩ := hI; exact h), BX.new W _ _, rfl⟩
  case body =>
    rintro D pre ⟨⟨k, xt, xs, xn, xa, xb⟩, hx⟩ a' W hl ⟨r, hr⟩ ⟨bC, i1, i2, hp, hB, hh⟩ ⟨Bx, hBx, bX, rfl⟩ hlt
    have x0 := bX.cell 0
    have x1 := bX.cell 1
    have x2 := bX.cell 2
    have x3 := bX.cell 3
    have x4 := bX.cell 4
    rw [hCc, hC] at bC
    have c0 := bC.cell 0
    have c1 := bC.cell 1
    have c2 := bC.cell 2
    have c3 := bC.cell 3
    have c4 := bC.cell 4
    have b1 := i1.cell
    have b2 := i2.cell
    have f1 := i1.frozen
    have f2 := i2.frozen
    unfold cC at x0 x1 x2 x3 x4 ⊢
    simp at x0 x1 x2 x3 x4 c0 c1 c2 c3 c4
    dsimp only
    have HS := hid (fun h => fi_snoc (c := ⟨t, s, n, ca, cb⟩) (x := ⟨(k, ⟨xt, xs, xn, xa, xb⟩), hx⟩) hp.out h)
    have HbC := hid bC
    have bXs := bX.sz
    clear hr bC bX
    by_cases hk0 : 0 < k
    · have hd : decide ((0 : Int) < k) = true := by simp; omega
      by_cases hxc : (⟨xt, xs, xn, xa, xb⟩ : Cp.C) = ⟨t, s, n, ca, cb⟩
      · obtain ⟨rfl, rfl, rfl, rfl, rfl⟩ := Cp.C.mk.inj hxc
        clear hxc
        gi_wp2
        exact ⟨((KeepsOthers.setCell _ _ _).trans (KeepsOthers.setCell _ _ _)).from _, rfl, ⟨(k, ⟨xt, xs, xn, xa, xb⟩), hx⟩, pre, (i1.set _).other (by omega) _, (i2.other (by omega) _).set _, rfl, hk0, rfl, hp.out, (by repeat' first | with_reducible exact Below.refl _ _ | with_reducible assumption | with_reducible refine belows_drewN ?_ _ | with_reducible refine Below.drew ?_ | with_reducible refine Below.setCell ?_ ?_ _ | with_reducible refine Below.alloc ?_ ?_ _ | omega | (simp; done) | (simp; omega))⟩
      · have HN := hid (HS.out (fun e => hxc e.2))
        have hne := c_ne hxc
        dsimp only at hne
        clear hxc
        rcases hne with h | ⟨rfl, h⟩ | ⟨rfl, rfl, h⟩ | ⟨rfl, rfl, rfl, h⟩ | ⟨rfl, rfl, rfl, rfl, h⟩
        all_goals gi_wp2
        all_goals exact ⟨(KeepsOthers.refl _).from _, Kp.refl _ _ _, HbC.out, i1, i2, HN, hB, hh⟩
    · have HN := hid (HS.out (fun e => hk0 e.1))
      have hd : decide ((0 : Int) < k) = false := by simp; omega
      gi_wp2
      exact ⟨(KeepsOthers.refl _).from _, Kp.refl _ _ _, HbC.out, i1, i2, HN, hB, hh⟩
  case done =>
    rintro D ys W hD rfl ⟨bC, i1, i2, hp, hB, hh⟩ hK
    have HF := hid (FiJ.no hp.out)
    have b1 := i1.cell
    have b2 := i2.cell
    have f1 := i1.frozen
    have f2 := i2.frozen
    gi_wp2
    have hK' := ((KeepsOthers.setCell W ⟨w.heap.size + 1, 0, none⟩ (.int .i64 0)).trans (KeepsOthers.setCell _ ⟨w.heap.size + 1 + 1, 0, none⟩ (.bool false))).same D _ hK rfl
    refine ⟨by simp, .inl ⟨_, _, rfl, run_takeDeferred hK', ?_⟩⟩
    have j1 : Boxed ((W.setCell ⟨w.heap.size + 1, 0, none⟩ (.int .i64 0)).setCell ⟨w.heap.size + 1 + 1, 0, none⟩ (.bool false)) (w.heap.size + 1) 3 (.int .i64 0) := (i1.set _).other (by omega) _
    have j2 : Boxed ((W.setCell ⟨w.heap.size + 1, 0, none⟩ (.int .i64 0)).setCell ⟨w.heap.size + 1 + 1, 0, none⟩ (.bool false)) (w.heap.size + 1 + 1) 4 (.bool false) := (i2.other (by omega) _).set _
    have hc1 := cell_kept j1.cell (grownBy_putObj' _ D (.deferred none)) (fun r e => by cases e; exact ⟨_, hK', rfl⟩)
    have hc2 := cell_kept j2.cell (grownBy_putObj' _ D (.deferred none)) (fun r e => by cases e; exact ⟨_, hK', rfl⟩)
    have hBB : Below w.heap.size w ((W.setCell ⟨w.heap.size + 1, 0, none⟩ (.int .i64 0)).setCell ⟨w.heap.size + 1 + 1, 0, none⟩ (.bool false)) := (by repeat' first | with_reducible exact Below.refl _ _ | with_reducible assumption | with_reducible refine belows_drewN ?_ _ | with_reducible refine Below.drew ?_ | with_reducible refine Below.setCell ?_ ?_ _ | with_reducible refine Below.alloc ?_ ?_ _ | omega | (simp; done) | (simp; omega))
    refine ⟨.tuple #[.int .i64 0, .bool false], ?_, 0, false, HF.out, rfl, hBB.trans (belowK_b (w := w) (Nat.le_refl _) _ D _ _ (by omega) hK' rfl rfl)⟩
    simp [results, Tryz.f93, go_sem, hc1, hc2]
  case stop =>
    rintro D c' pre W hD ⟨k, hk, rfl⟩ ⟨rfl, hX⟩ hK
    obtain ⟨r, hF, i1, i2, hB⟩ := hX.is
    have HF := hid hF
    clear hF hX
    gi_wp2
    refine ⟨by simp, .inl ⟨_, _, rfl, run_takeDeferred hK, ?_⟩⟩
    have hc1 := cell_kept i1.cell (grownBy_putObj' _ D (.deferred none)) (fun r e => by cases e; exact ⟨_, hK, rfl⟩)
    have hc2 := cell_kept i2.cell (grownBy_putObj' _ D (.deferred none)) (fun r e => by cases e; exact ⟨_, hK, rfl⟩)
    refine ⟨.tuple #[.int .i64 r, .bool true], ?_, r, true, HF.out, rfl, hB.trans (belowK_b (w := w) (Nat.le_refl _) _ D _ _ (by omega) hK rfl rfl)⟩
    simp [results, Tryz.f93, go_sem, hc1, hc2]
end Go.Proofs.YtjnjnfhboafcgaaGreatDoor.L3
namespace Go.Proofs.YtjnjnfhboafcgaaGreatDoor.L3
open Go.RowKit

/-- A pool that has its first entry. -/
def hdP (l : List Cp.C) : List Cp.C := if l.length = 0 then l ++ [Cp.C0] else l
/-- What Add answers. -/
def AdIs (l : List Cp.C) (c : Cp.C) (m : List Cp.C) (i : Nat) (er : Int) : Prop :=
  (CkIs l er ∧ er ≠ 0 ∧ m = [] ∧ i = 0) ∨ (CkIs l 0 ∧ ((ceOut c = er ∧ er ≠ 0 ∧ m = [] ∧ i = 0) ∨ (ceOut c = 0 ∧ ((FiIs l c i true ∧ er = 0 ∧ m = l) ∨ (FiIs l c 0 false ∧ ((4096 < (appE (hdP l) c).length ∧ er = 3 ∧ m = [] ∧ i = 0) ∨ ((appE (hdP l) c).length ≤ 4096 ∧ er = 0 ∧ m = appE (hdP l) c ∧ i = (hdP l).length)))))))
theorem AdIs.det {l : List Cp.C} {c : Cp.C} {m m' : List Cp.C} {i i' : Nat} {er er' : Int} (h : AdIs l c m i er) (k : AdIs l c m' i' er') : m = m' ∧ i = i' ∧ er = er' := by
  rcases h with ⟨h1, h2, rfl, rfl⟩ | ⟨h1, h⟩ <;> rcases k with ⟨k1, k2, rfl, rfl⟩ | ⟨k1, k⟩
  · exact ⟨rfl, rfl, h1.det k1⟩
  · exact absurd (h1.det k1) h2
  · exact absurd (k1.det h1) k2
  · rcases h with ⟨h2, h3, rfl, rfl⟩ | ⟨h2, h⟩ <;> rcases k with ⟨k2, k3, rfl, rfl⟩ | ⟨k2, k⟩
    · exact ⟨rfl, rfl, h2.symm.trans k2⟩
    · exact absurd (h2.symm.trans k2) h3
    · exact absurd (k2.symm.trans h2) k3
    · rcases h with ⟨h3, rfl, rfl⟩ | ⟨h3, h⟩ <;> rcases k with ⟨k3, rfl, rfl⟩ | ⟨k3, k⟩
      · exact ⟨rfl, (h3.det k3).1, rfl⟩
      · cases (h3.det k3).2
      · cases (h3.det k3).2
      · rcases h with ⟨h4, rfl, rfl, rfl⟩ | ⟨h4, rfl, rfl, rfl⟩ <;> rcases k with ⟨k4, rfl, rfl, rfl⟩ | ⟨k4, rfl, rfl, rfl⟩
        · exact ⟨rfl, rfl, rfl⟩
        · omega
        · omega
        · exact ⟨rfl, rfl, rfl⟩
def AdPost (l : List Cp.C) (c : Cp.C) (w : World) (e : Ending) (w' : World) : Prop :=
  ∃ (m : List Cp.C) (i : Nat) (er : Int) (v : Value), AdIs l c m i er ∧ e = .returned (.tuple #[v, .int .i64 (i : Nat), .int .i64 er]) ∧ OwnC w' w.heap.size v m ∧ Below w.heap.size w w'
theorem ownC_mono {w : World} {b b' : Nat} {v : Value} {l : List Cp.C} (h : OwnC w b v l) (hb : b' ≤ b) : OwnC w b' v l := by
  refine ⟨h.1, ?_⟩
  rcases h.2 with h | ⟨g, cap, cur, hv, hg, k⟩
  · exact .inl h
  · exact .inr ⟨g, cap, cur, hv, Nat.le_trans hb hg, k⟩
theorem AdPost.no {l : List Cp.C} {c : Cp.C} {w w' : World} {er : Int} (h : AdIs l c [] 0 er) (hb : Below w.heap.size w w') : AdPost l c w (.returned (.tuple #[.slice none 0 0, .int .i64 0, .int .i64 er])) w' :=
  ⟨[], 0, er, _, h, rfl, nilC _ _, hb⟩
set_option maxRecDepth 100000 in
set_option maxHeartbeats 4000000 in
theorem add_any (l : List Cp.C) (c : Cp.C) (v : Value) (w : World) (ht : Tabs w) (hv : Kit.IsS 5 w v l.length (l.flatMap cL)) (hs : ∀ x ∈ l, x.s.size ≤ 140737488355328) (hcs : c.s.size ≤ 140737488355328) (hn : l.length * 48 ≤ 140737488355328) :
    Calls Tryz.prog 163 #[v, .agg (cC c)] w (AdPost l c w) := by
  have hs0 := ht.size
  have HT := hid (fun W (h : Below w.heap.size w W) => ht.below h ht.size)
  have HV := hid (fun W (h : Below w.heap.size w W) => hv.below h (Nat.le_refl _))
  have HCk := hid (fun W (h : Below w.heap.size w W) => check_any l v W (HT.out W h) (HV.out W h) hs)
  have HCe0 := fun W (h : Below w.heap.size w W) => checkEntry_any c W (HT.out W h) hcs
  have HFi := hid (fun W (h : Below w.heap.size w W) => find_any l c v W (HV.out W h) hn)
  have HCl := hid (fun W (h : Below w.heap.size w W) => cclone_any l v W (HV.out W h) hn)
  obtain ⟨a, cap, hv2⟩ := hv.len
  subst hv2
  have hlen := hv.2.1
  clear hv ht hs
  obtain ⟨C, hC⟩ : ∃ C, C = cC c := ⟨_, rfl⟩
  by_cases h0 : CkIs l 0
  case neg =>
    have H0 := hid h0
    unfold cC
    clear h0 hC
    go_enter Tryz.func163, Tryz.ntmps163
    go_wp2_with (go_at_call 85; refine (HCk.out _ (by repeat' first | with_reducible exact Below.refl _ _ | with_reducible assumption | with_reducible refine belows_drewN ?_ _ | with_reducible refine Below.drew ?_ | with_reducible refine Below.setCell ?_ ?_ _ | with_reducible refine Below.alloc ?_ ?_ _ | omega | (simp; done) | (simp; omega))).mono ?_; rintro e w1 ⟨er, hck, rfl, hb1⟩; have hne : (er != 0) = true := (by (simp; rintro rfl; exact H0.out hck)); have HK := hid hck; clear hck)
    exact bodyPost_ret (v := .tuple #[.slice none 0 0, .int .i64 0, .int .i64 er]) (by simp [results, Tryz.results163, go_sem]) rfl (AdPost.no (.inl ⟨HK.out, fun e => H0.out (e ▸ HK.out), rfl, rfl⟩) (belows (B := w.heap.size) (a := w) ((Below.refl _ w).alloc (Nat.le_refl _) _) hb1 (by simp)))
  case pos =>
  have H0 := hid h0
  clear h0
  by_cases hce : ceOut c = 0
  case neg =>
    obtain ⟨ec, hec⟩ : ∃ ec, ec = ceOut c := ⟨_, rfl⟩
    rw [← hec] at HCe0 hce
    have HCe := hid HCe0
    have HA := hid (show AdIs l c [] 0 ec from .inr ⟨H0.out, .inl ⟨hec.symm, hce, rfl, rfl⟩⟩)
    have hne2 : (ec != 0) = true := by simpa using hce
    unfold cC at HCe ⊢
    clear hC HCe0 hce hec
    go_enter Tryz.func163, Tryz.ntmps163
    go_wp2_with (first
      | (go_at_call 85; refine (HCk.out _ (by repeat' first | with_reducible exact Below.refl _ _ | with_reducible assumption | with_reducible refine belows_drewN ?_ _ | with_reducible refine Below.drew ?_ | with_reducible refine Below.setCell ?_ ?_ _ | with_reducible refine Below.alloc ?_ ?_ _ | omega | (simp; done) | (simp; omega))).mono ?_; rintro e w1 ⟨er, hck, rfl, hb1⟩; obtain rfl := CkIs.det hck H0.out; clear hck; have B1 := belows (B := w.heap.size) (a := w) ((Below.refl _ w).alloc (Nat.le_refl _) _) hb1 (by simp); have bx1 := (BX.new w #[.int .i64 c.t, .string c.s, .int .i64 c.n, .int .i64 c.a, .int .i64 c.b] 56).below hb1 (by simp); have c0 := bx1.cell 0; have c1 := bx1.cell 1; have c2 := bx1.cell 2; have c3 := bx1.cell 3; have c4 := bx1.cell 4; simp at c0 c1 c2 c3 c4)
      | (go_at_call 170; refine (HCe.out _ B1).mono ?_; rintro e w2 ⟨rfl, hb2⟩; have B2 := belows B1 hb2 B1.size; have bx2 := bx1.below hb2 bx1.sz; clear hb2))
    exact bodyPost_ret (v := .tuple #[.slice none 0 0, .int .i64 0, .int .i64 ec]) (by simp [results, Tryz.results163, go_sem]) rfl (AdPost.no HA.out B2)
  case pos =>
  rw [hce] at HCe0
  have HCe := hid HCe0
  have hl4 : l.length ≤ 4096 := (ck_size H0.out).1
  have HA1 := hid (fun r (h : FiIs l c r true) => show AdIs l c l r 0 from .inr ⟨H0.out, .inr ⟨hce, .inl ⟨h, rfl, rfl⟩⟩⟩)
  have HA2 := hid (fun (h : FiIs l c 0 false) (h2 : 4096 < (appE (hdP l) c).length) => show AdIs l c [] 0 3 from .inr ⟨H0.out, .inr ⟨hce, .inr ⟨h, .inl ⟨h2, rfl, rfl, rfl⟩⟩⟩⟩)
  have HA3 := hid (fun (h : FiIs l c 0 false) (h2 : (appE (hdP l) c).length ≤ 4096) => show AdIs l c (appE (hdP l) c) (hdP l).length 0 from .inr ⟨H0.out, .inr ⟨hce, .inr ⟨h, .inr ⟨h2, rfl, rfl, rfl⟩⟩⟩⟩)
  obtain ⟨i0, hi, hz0, hz1, hz2⟩ := info_parts infoC
  obtain ⟨m, hm⟩ : ∃ m, m = hdP l := ⟨_, rfl⟩
  have hml : m.length ≤ 4097 := by
    rw [hm]
    unfold hdP
    split
    · rw [List.length_append]; simp only [List.length_cons, List.length_nil]; omega
    · omega
  have HAp0 := fun (base : Nat) (u : Value) (W : World) (ho : OwnC W base u m) (hb : base ≤ W.heap.size) => appendEntry_any base m u c W ho hb (by omega)
  obtain ⟨M, hM⟩ : ∃ M, M = appE m c := ⟨_, rfl⟩
  rw [← hm, ← hM] at HA2 HA3
  rw [← hM] at HAp0
  have HAp := hid HAp0
  have HFF : ∀ r b, FiIs l c r b → b = false → r = 0 := fun r b h e => by
    rcases h with ⟨-, h, -⟩ | ⟨h, -⟩
    · exact h
    · rw [e] at h; cases h
  unfold cC at HCe HFi HAp ⊢
  clear HCe0 hce hC HAp0 hM
  by_cases hl0 : l.length = 0
  · have hd0 : ((l.length : Int) == 0) = true := by rw [beq_iff_eq]; omega
    have hm2 : m = l ++ [Cp.C0] := by rw [hm]; unfold hdP; rw [if_pos hl0]
    have HM2 := hid hm2
    clear hm hm2 hl0
    by_cases hbig : 4096 < M.length
    · have hdb : decide (4096 < (M.length : Int)) = true := by simp; omega
      go_enter Tryz.func163, Tryz.ntmps163
      go_wp2_with (first | (go_at_call 85; refine (HCk.out _ (by repeat' first | with_reducible exact Below.refl _ _ | with_reducible assumption | with_reducible refine belows_drewN ?_ _ | with_reducible refine Below.drew ?_ | with_reducible refine Below.setCell ?_ ?_ _ | with_reducible refine Below.alloc ?_ ?_ _ | omega | (simp; done) | (simp; omega))).mono ?_; rintro e w1 ⟨er, hck, rfl, hb1⟩; obtain rfl := CkIs.det hck H0.out; clear hck; have B1 := belows (B := w.heap.size) (a := w) ((Below.refl _ w).alloc (Nat.le_refl _) _) hb1 (by simp); have bx1 := (BX.new w #[.int .i64 c.t, .string c.s, .int .i64 c.n, .int .i64 c.a, .int .i64 c.b] 56).below hb1 (by simp); have c0 := bx1.cell 0; have c1 := bx1.cell 1; have c2 := bx1.cell 2; have c3 := bx1.cell 3; have c4 := bx1.cell 4; simp at c0 c1 c2 c3 c4) | (go_at_call 170; refine (HCe.out _ B1).mono ?_; rintro e w2 ⟨rfl, hb2⟩; have B2 := belows B1 hb2 B1.size; have bx2 := bx1.below hb2 bx1.sz; clear hb2) | (go_at_call 76; refine (HCl.out _ B2).mono ?_; rintro e w4 ⟨v4, rfl, o4, hb4⟩; obtain ⟨a4, cap4, rfl⟩ := own_form o4; have B4 := belows B2 hb4 B2.size; have bx4 := bx2.below hb4 bx2.sz; have hw2 := B2.size; have hs2 := bx2.sz; have d0 := bx4.cell 0; have d1 := bx4.cell 1; have d2 := bx4.cell 2; have d3 := bx4.cell 3; have d4 := bx4.cell 4; simp at d0 d1 d2 d3 d4; have O4 := hid o4; have hz4 := hb4.size; clear o4 hb4) | (go_at_call 93; refine (HFi.out _ B4).mono ?_; rintro e w5 ⟨r, b, hF, rfl, hb5⟩; have B5 := belows B4 hb5 B4.size; have bx5 := bx4.below hb5 bx4.sz; have O5 := hid (Kit.owns_below O4.out hb5 (Nat.le_refl _)); have hz5 := hb5.size; have e0 := bx5.cell 0; have e1 := bx5.cell 1; have e2 := bx5.cell 2; have e3 := bx5.cell 3; have e4 := bx5.cell 4; simp at e0 e1 e2 e3 e4; clear hb5; have hr0 := HFF r b hF; have HF := hid hF; clear hF; cases b; (obtain rfl := hr0 rfl; clear hr0)) | (at_builtin; refine wpList_append_own_at _ rfl (.tmp 37) (.tmp 39) 23 rfl w2.heap.size 56 i0 _ 5 48 Tryz.underlying23 hi hz0 hz1 hz2 rfl (by decide) _ _ _ rfl (World.ownsRow.alloc O5.out _) ⟨w5.heap.size, 0, none⟩ 1 1 (cL Cp.C0) rfl rfl (news_c w5 Cp.C0) (ones_c _) (by unfold maxLen; omega) (by omega) (by simp only [World.size_alloc]; omega) ?_; intro v6 w6 o6' hg6 _ hk6; have o6 := OwnC.snoc o6'; rw [← HM2.out] at o6; have hg6s := hg6.size; simp only [World.size_alloc] at hg6s; have B6 := (B5.alloc B5.size (.cells #[.int .i64 0, .string ⟨#[]⟩, .int .i64 0, .int .i64 0, .int .i64 0] 56)).grown hg6 (by simp only [World.size_alloc]; omega) (fun k e => by (have := Kit.own_base O5.out k e; omega)); have bx6 := (bx5.below ((Below.refl w5.heap.size w5).alloc (Nat.le_refl _) (.cells #[.int .i64 0, .string ⟨#[]⟩, .int .i64 0, .int .i64 0, .int .i64 0] 56)) bx5.sz).grown hg6 (fun e => by (have := Kit.own_base O5.out _ e; omega)); have g0 := bx6.cell 0; have g1 := bx6.cell 1; have g2 := bx6.cell 2; have g3 := bx6.cell 3; have g4 := bx6.cell 4; simp at g0 g1 g2 g3 g4; obtain ⟨a6, cap6, rfl⟩ := own_form o6; have O6 := hid o6; clear o6 o6' hg6 hk6) | (go_at_call 187; refine (HAp.out _ _ _ O6.out (by omega)).mono ?_; rintro e w7 ⟨v7, rfl, o7, G7⟩; obtain ⟨a7, cap7, rfl⟩ := own_form o7; have B7 := G7.to_below B6 B6.size (fun k e => by (have := Kit.own_base O6.out k e; omega)); have O7 := hid o7; clear o7))
      · (exact bodyPost_ret (v := .tuple #[.slice none 0 0, .int .i64 0, .int .i64 3]) (by simp [results, Tryz.results163, go_sem]) rfl (AdPost.no (HA2.out HF.out hbig) B7))
      · (exact bodyPost_ret (v := .tuple #[.slice a4 l.length cap4, .int .i64 r, .int .i64 0]) (by simp [results, Tryz.results163, go_sem]) rfl ⟨_, _, _, _, HA1.out r HF.out, rfl, ownC_mono O5.out (by omega), B5⟩)
    · have hdb : decide (4096 < (M.length : Int)) = false := by simp; omega
      go_enter Tryz.func163, Tryz.ntmps163
      go_wp2_with (first | (go_at_call 85; refine (HCk.out _ (by repeat' first | with_reducible exact Below.refl _ _ | with_reducible assumption | with_reducible refine belows_drewN ?_ _ | with_reducible refine Below.drew ?_ | with_reducible refine Below.setCell ?_ ?_ _ | with_reducible refine Below.alloc ?_ ?_ _ | omega | (simp; done) | (simp; omega))).mono ?_; rintro e w1 ⟨er, hck, rfl, hb1⟩; obtain rfl := CkIs.det hck H0.out; clear hck; have B1 := belows (B := w.heap.size) (a := w) ((Below.refl _ w).alloc (Nat.le_refl _) _) hb1 (by simp); have bx1 := (BX.new w #[.int .i64 c.t, .string c.s, .int .i64 c.n, .int .i64 c.a, .int .i64 c.b] 56).below hb1 (by simp); have c0 := bx1.cell 0; have c1 := bx1.cell 1; have c2 := bx1.cell 2; have c3 := bx1.cell 3; have c4 := bx1.cell 4; simp at c0 c1 c2 c3 c4) | (go_at_call 170; refine (HCe.out _ B1).mono ?_; rintro e w2 ⟨rfl, hb2⟩; have B2 := belows B1 hb2 B1.size; have bx2 := bx1.below hb2 bx1.sz; clear hb2) | (go_at_call 76; refine (HCl.out _ B2).mono ?_; rintro e w4 ⟨v4, rfl, o4, hb4⟩; obtain ⟨a4, cap4, rfl⟩ := own_form o4; have B4 := belows B2 hb4 B2.size; have bx4 := bx2.below hb4 bx2.sz; have hw2 := B2.size; have hs2 := bx2.sz; have d0 := bx4.cell 0; have d1 := bx4.cell 1; have d2 := bx4.cell 2; have d3 := bx4.cell 3; have d4 := bx4.cell 4; simp at d0 d1 d2 d3 d4; have O4 := hid o4; have hz4 := hb4.size; clear o4 hb4) | (go_at_call 93; refine (HFi.out _ B4).mono ?_; rintro e w5 ⟨r, b, hF, rfl, hb5⟩; have B5 := belows B4 hb5 B4.size; have bx5 := bx4.below hb5 bx4.sz; have O5 := hid (Kit.owns_below O4.out hb5 (Nat.le_refl _)); have hz5 := hb5.size; have e0 := bx5.cell 0; have e1 := bx5.cell 1; have e2 := bx5.cell 2; have e3 := bx5.cell 3; have e4 := bx5.cell 4; simp at e0 e1 e2 e3 e4; clear hb5; have hr0 := HFF r b hF; have HF := hid hF; clear hF; cases b; (obtain rfl := hr0 rfl; clear hr0)) | (at_builtin; refine wpList_append_own_at _ rfl (.tmp 37) (.tmp 39) 23 rfl w2.heap.size 56 i0 _ 5 48 Tryz.underlying23 hi hz0 hz1 hz2 rfl (by decide) _ _ _ rfl (World.ownsRow.alloc O5.out _) ⟨w5.heap.size, 0, none⟩ 1 1 (cL Cp.C0) rfl rfl (news_c w5 Cp.C0) (ones_c _) (by unfold maxLen; omega) (by omega) (by simp only [World.size_alloc]; omega) ?_; intro v6 w6 o6' hg6 _ hk6; have o6 := OwnC.snoc o6'; rw [← HM2.out] at o6; have hg6s := hg6.size; simp only [World.size_alloc] at hg6s; have B6 := (B5.alloc B5.size (.cells #[.int .i64 0, .string ⟨#[]⟩, .int .i64 0, .int .i64 0, .int .i64 0] 56)).grown hg6 (by simp only [World.size_alloc]; omega) (fun k e => by (have := Kit.own_base O5.out k e; omega)); have bx6 := (bx5.below ((Below.refl w5.heap.size w5).alloc (Nat.le_refl _) (.cells #[.int .i64 0, .string ⟨#[]⟩, .int .i64 0, .int .i64 0, .int .i64 0] 56)) bx5.sz).grown hg6 (fun e => by (have := Kit.own_base O5.out _ e; omega)); have g0 := bx6.cell 0; have g1 := bx6.cell 1; have g2 := bx6.cell 2; have g3 := bx6.cell 3; have g4 := bx6.cell 4; simp at g0 g1 g2 g3 g4; obtain ⟨a6, cap6, rfl⟩ := own_form o6; have O6 := hid o6; clear o6 o6' hg6 hk6) | (go_at_call 187; refine (HAp.out _ _ _ O6.out (by omega)).mono ?_; rintro e w7 ⟨v7, rfl, o7, G7⟩; obtain ⟨a7, cap7, rfl⟩ := own_form o7; have B7 := G7.to_below B6 B6.size (fun k e => by (have := Kit.own_base O6.out k e; omega)); have O7 := hid o7; clear o7))
      · (exact bodyPost_ret (v := .tuple #[.slice a7 M.length cap7, .int .i64 m.length, .int .i64 0]) (by simp [results, Tryz.results163, go_sem]) rfl ⟨_, _, _, _, HA3.out HF.out (by omega), rfl, ownC_mono O7.out (by omega), B7⟩)
      · (exact bodyPost_ret (v := .tuple #[.slice a4 l.length cap4, .int .i64 r, .int .i64 0]) (by simp [results, Tryz.results163, go_sem]) rfl ⟨_, _, _, _, HA1.out r HF.out, rfl, ownC_mono O5.out (by omega), B5⟩)
  · have hd0 : ((l.length : Int) == 0) = false := by rw [beq_eq_false_iff_ne]; omega
    have hm2 : m = l := by rw [hm]; unfold hdP; rw [if_neg hl0]
    clear hm hl0
    subst m
    by_cases hbig : 4096 < M.length
    · have hdb : decide (4096 < (M.length : Int)) = true := by simp; omega
      go_enter Tryz.func163, Tryz.ntmps163
      go_wp2_with (first | (go_at_call 85; refine (HCk.out _ (by repeat' first | with_reducible exact Below.refl _ _ | with_reducible assumption | with_reducible refine belows_drewN ?_ _ | with_reducible refine Below.drew ?_ | with_reducible refine Below.setCell ?_ ?_ _ | with_reducible refine Below.alloc ?_ ?_ _ | omega | (simp; done) | (simp; omega))).mono ?_; rintro e w1 ⟨er, hck, rfl, hb1⟩; obtain rfl := CkIs.det hck H0.out; clear hck; have B1 := belows (B := w.heap.size) (a := w) ((Below.refl _ w).alloc (Nat.le_refl _) _) hb1 (by simp); have bx1 := (BX.new w #[.int .i64 c.t, .string c.s, .int .i64 c.n, .int .i64 c.a, .int .i64 c.b] 56).below hb1 (by simp); have c0 := bx1.cell 0; have c1 := bx1.cell 1; have c2 := bx1.cell 2; have c3 := bx1.cell 3; have c4 := bx1.cell 4; simp at c0 c1 c2 c3 c4) | (go_at_call 170; refine (HCe.out _ B1).mono ?_; rintro e w2 ⟨rfl, hb2⟩; have B2 := belows B1 hb2 B1.size; have bx2 := bx1.below hb2 bx1.sz; clear hb2) | (go_at_call 76; refine (HCl.out _ B2).mono ?_; rintro e w4 ⟨v4, rfl, o4, hb4⟩; obtain ⟨a4, cap4, rfl⟩ := own_form o4; have B4 := belows B2 hb4 B2.size; have bx4 := bx2.below hb4 bx2.sz; have hw2 := B2.size; have hs2 := bx2.sz; have d0 := bx4.cell 0; have d1 := bx4.cell 1; have d2 := bx4.cell 2; have d3 := bx4.cell 3; have d4 := bx4.cell 4; simp at d0 d1 d2 d3 d4; have O4 := hid o4; have hz4 := hb4.size; clear o4 hb4) | (go_at_call 93; refine (HFi.out _ B4).mono ?_; rintro e w5 ⟨r, b, hF, rfl, hb5⟩; have B5 := belows B4 hb5 B4.size; have bx5 := bx4.below hb5 bx4.sz; have O5 := hid (Kit.owns_below O4.out hb5 (Nat.le_refl _)); have hz5 := hb5.size; have e0 := bx5.cell 0; have e1 := bx5.cell 1; have e2 := bx5.cell 2; have e3 := bx5.cell 3; have e4 := bx5.cell 4; simp at e0 e1 e2 e3 e4; clear hb5; have hr0 := HFF r b hF; have HF := hid hF; clear hF; cases b; (obtain rfl := hr0 rfl; clear hr0)) | (go_at_call 187; refine (HAp.out _ _ _ O5.out (by omega)).mono ?_; rintro e w7 ⟨v7, rfl, o7, G7⟩; obtain ⟨a7, cap7, rfl⟩ := own_form o7; have B7 := G7.to_below B5 B5.size (fun k e => by (have := Kit.own_base O5.out k e; omega)); have O7 := hid o7; clear o7))
      · (exact bodyPost_ret (v := .tuple #[.slice none 0 0, .int .i64 0, .int .i64 3]) (by simp [results, Tryz.results163, go_sem]) rfl (AdPost.no (HA2.out HF.out hbig) B7))
      · (exact bodyPost_ret (v := .tuple #[.slice a4 l.length cap4, .int .i64 r, .int .i64 0]) (by simp [results, Tryz.results163, go_sem]) rfl ⟨_, _, _, _, HA1.out r HF.out, rfl, ownC_mono O5.out (by omega), B5⟩)
    · have hdb : decide (4096 < (M.length : Int)) = false := by simp; omega
      go_enter Tryz.func163, Tryz.ntmps163
      go_wp2_with (first | (go_at_call 85; refine (HCk.out _ (by repeat' first | with_reducible exact Below.refl _ _ | with_reducible assumption | with_reducible refine belows_drewN ?_ _ | with_reducible refine Below.drew ?_ | with_reducible refine Below.setCell ?_ ?_ _ | with_reducible refine Below.alloc ?_ ?_ _ | omega | (simp; done) | (simp; omega))).mono ?_; rintro e w1 ⟨er, hck, rfl, hb1⟩; obtain rfl := CkIs.det hck H0.out; clear hck; have B1 := belows (B := w.heap.size) (a := w) ((Below.refl _ w).alloc (Nat.le_refl _) _) hb1 (by simp); have bx1 := (BX.new w #[.int .i64 c.t, .string c.s, .int .i64 c.n, .int .i64 c.a, .int .i64 c.b] 56).below hb1 (by simp); have c0 := bx1.cell 0; have c1 := bx1.cell 1; have c2 := bx1.cell 2; have c3 := bx1.cell 3; have c4 := bx1.cell 4; simp at c0 c1 c2 c3 c4) | (go_at_call 170; refine (HCe.out _ B1).mono ?_; rintro e w2 ⟨rfl, hb2⟩; have B2 := belows B1 hb2 B1.size; have bx2 := bx1.below hb2 bx1.sz; clear hb2) | (go_at_call 76; refine (HCl.out _ B2).mono ?_; rintro e w4 ⟨v4, rfl, o4, hb4⟩; obtain ⟨a4, cap4, rfl⟩ := own_form o4; have B4 := belows B2 hb4 B2.size; have bx4 := bx2.below hb4 bx2.sz; have hw2 := B2.size; have hs2 := bx2.sz; have d0 := bx4.cell 0; have d1 := bx4.cell 1; have d2 := bx4.cell 2; have d3 := bx4.cell 3; have d4 := bx4.cell 4; simp at d0 d1 d2 d3 d4; have O4 := hid o4; have hz4 := hb4.size; clear o4 hb4) | (go_at_call 93; refine (HFi.out _ B4).mono ?_; rintro e w5 ⟨r, b, hF, rfl, hb5⟩; have B5 := belows B4 hb5 B4.size; have bx5 := bx4.below hb5 bx4.sz; have O5 := hid (Kit.owns_below O4.out hb5 (Nat.le_refl _)); have hz5 := hb5.size; have e0 := bx5.cell 0; have e1 := bx5.cell 1; have e2 := bx5.cell 2; have e3 := bx5.cell 3; have e4 := bx5.cell 4; simp at e0 e1 e2 e3 e4; clear hb5; have hr0 := HFF r b hF; have HF := hid hF; clear hF; cases b; (obtain rfl := hr0 rfl; clear hr0)) | (go_at_call 187; refine (HAp.out _ _ _ O5.out (by omega)).mono ?_; rintro e w7 ⟨v7, rfl, o7, G7⟩; obtain ⟨a7, cap7, rfl⟩ := own_form o7; have B7 := G7.to_below B5 B5.size (fun k e => by (have := Kit.own_base O5.out k e; omega)); have O7 := hid o7; clear o7))
      · (exact bodyPost_ret (v := .tuple #[.slice a7 M.length cap7, .int .i64 l.length, .int .i64 0]) (by simp [results, Tryz.results163, go_sem]) rfl ⟨_, _, _, _, HA3.out HF.out (by omega), rfl, ownC_mono O7.out (by omega), B7⟩)
      · (exact bodyPost_ret (v := .tuple #[.slice a4 l.length cap4, .int .i64 r, .int .i64 0]) (by simp [results, Tryz.results163, go_sem]) rfl ⟨_, _, _, _, HA1.out r HF.out, rfl, ownC_mono O5.out (by omega), B5⟩)
end Go.Proofs.YtjnjnfhboafcgaaGreatDoor.L3
namespace Go.Proofs.YtjnjnfhboafcgaaGreatDoor.L3
open Go.RowKit

theorem ck_all {l : List Cp.C} : CkIs l 0 ↔ (l.length ≤ 4096 ∧ ∀ i, i < l.length → errAt l i = 0) := by
  constructor
  · rintro (⟨-, h⟩ | ⟨h1, ⟨-, h⟩ | ⟨-, -, -, h, -⟩⟩)
    · omega
    · exact ⟨h1, h⟩
    · exact absurd rfl h
  · rintro ⟨h1, h2⟩
    exact .inr ⟨h1, .inl ⟨rfl, h2⟩⟩
theorem prev_app {l m : List Cp.C} {j : Nat} (hj : j ≤ l.length) : prevB (l ++ m) j = prevB l j := by
  cases j with
  | zero => rfl
  | succ k =>
    unfold prevB
    dsimp only
    rw [List.getElem?_append_left (by omega)]
/-- What is good stays so where something good stands behind. -/
theorem err_app {l m : List Cp.C} {j : Nat} (hj : j < l.length) (h : errAt l j = 0) : errAt (l ++ m) j = 0 := by
  obtain ⟨c, hc⟩ : ∃ c, l[j]? = some c := ⟨l[j], List.getElem?_eq_getElem hj⟩
  have hc2 : (l ++ m)[j]? = some c := by rw [List.getElem?_append_left hj]; exact hc
  unfold errAt at h ⊢
  rw [hc] at h
  rw [hc2, prev_app (by omega)]
  dsimp only at h ⊢
  cases hp : prevB l j with
  | true => rw [hp] at h; exact h
  | false =>
    rw [hp] at h
    rw [if_neg (by simp)] at h ⊢
    by_cases h5 : c.t = 5 ∧ j = l.length - 1
    · rw [if_pos h5] at h; omega
    · rw [if_neg h5] at h
      by_cases h6 : c.t = 5 ∧ j = (l ++ m).length - 1
      · rw [List.length_append] at h6
        exact absurd ⟨h6.1, by omega⟩ h5
      · rw [if_neg h6]; exact h
/-- A good pool's last entry asks for nothing behind it. -/
theorem last_ok {l : List Cp.C} (h : CkIs l 0) (h0 : l.length ≠ 0) : prevB l l.length = false := by
  obtain ⟨k, hk⟩ : ∃ k, l.length = k + 1 := ⟨l.length - 1, by omega⟩
  have h1 := (ck_all.1 h).2 k (by omega)
  obtain ⟨c, hc⟩ : ∃ c, l[k]? = some c := ⟨l[k]'(by omega), List.getElem?_eq_getElem _⟩
  rw [hk]
  unfold prevB
  dsimp only
  rw [hc]
  dsimp only
  unfold errAt at h1
  rw [hc] at h1
  dsimp only at h1
  cases hp : prevB l k with
  | true =>
    rw [hp, if_pos rfl] at h1
    by_cases hc0 : c = Cp.C0
    · rw [hc0]; rfl
    · rw [if_neg hc0] at h1; omega
  | false =>
    rw [hp, if_neg (by simp)] at h1
    by_cases h5 : c.t = 5
    · rw [if_pos ⟨h5, by omega⟩] at h1; omega
    · simpa using h5
theorem hd_ok {l : List Cp.C} (h : CkIs l 0) : (hdP l).length ≠ 0 ∧ (∀ j, j < (hdP l).length → ∀ m, errAt (hdP l ++ m) j = 0) ∧ ∀ m, prevB (hdP l ++ m) (hdP l).length = false := by
  unfold hdP
  by_cases h0 : l.length = 0
  · rw [if_pos h0]
    obtain rfl := List.length_eq_zero_iff.1 h0
    refine ⟨by simp, fun j hj m => ?_, fun m => by simp [prevB, Cp.C0]⟩
    have : j = 0 := by simpa using hj
    subst this
    simp [errAt, prevB]
  · rw [if_neg h0]
    refine ⟨h0, fun j hj m => err_app hj ((ck_all.1 h).2 j hj), fun m => ?_⟩
    rw [prev_app (Nat.le_refl _)]
    exact last_ok h h0
/-- A good pool with a good entry more. -/
theorem app_ok {l : List Cp.C} {c : Cp.C} (h : CkIs l 0) (hc : ceOut c = 0) (hn : (appE (hdP l) c).length ≤ 4096) : CkIs (appE (hdP l) c) 0 := by
  refine ck_all.2 ⟨hn, ?_⟩
  obtain ⟨h1, h2, h3⟩ := hd_ok h
  unfold appE
  by_cases h5 : c.t = 5
  · rw [if_pos h5]
    intro j hj
    rw [List.append_assoc] at hj ⊢
    rw [List.length_append] at hj
    simp only [List.cons_append, List.nil_append, List.length_cons, List.length_nil] at hj
    rcases Nat.lt_trichotomy j (hdP l).length with hlt | rfl | hgt
    · exact h2 j hlt _
    · unfold errAt
      rw [show (hdP l ++ ([c] ++ [Cp.C0]))[(hdP l).length]? = some c by simp]
      dsimp only
      rw [h3, if_neg (by simp), if_neg (by rintro ⟨-, e⟩; simp at e), hc]
    · obtain rfl : j = (hdP l).length + 1 := by omega
      unfold errAt
      rw [show (hdP l ++ ([c] ++ [Cp.C0]))[(hdP l).length + 1]? = some Cp.C0 by rw [List.getElem?_append_right (by omega)]; simp]
      dsimp only
      rw [show prevB (hdP l ++ ([c] ++ [Cp.C0])) ((hdP l).length + 1) = true by unfold prevB; dsimp only; rw [show (hdP l ++ ([c] ++ [Cp.C0]))[(hdP l).length]? = some c by simp]; simpa using h5]
      rfl
  · rw [if_neg h5]
    intro j hj
    rw [List.length_append] at hj
    simp only [List.length_cons, List.length_nil] at hj
    rcases Nat.lt_or_ge j (hdP l).length with hlt | hge
    · exact h2 j hlt _
    · obtain rfl : j = (hdP l).length := by omega
      unfold errAt
      rw [show (hdP l ++ [c])[(hdP l).length]? = some c by simp]
      dsimp only
      rw [h3, if_neg (by simp), if_neg (fun e => h5 e.1), hc]
theorem app_pre (l : List Cp.C) (c : Cp.C) : ∃ t, appE l c = l ++ (c :: t) := by
  unfold appE
  by_cases h5 : c.t = 5
  · rw [if_pos h5]; exact ⟨[Cp.C0], by simp⟩
  · rw [if_neg h5]; exact ⟨[], rfl⟩
theorem hd_pre (l : List Cp.C) : ∃ t, hdP l = l ++ t := by
  unfold hdP
  by_cases h0 : l.length = 0
  · rw [if_pos h0]; exact ⟨_, rfl⟩
  · rw [if_neg h0]; exact ⟨[], by simp⟩
/-- What an Add that goes through leaves. -/
theorem ad_good {l : List Cp.C} {c : Cp.C} {m : List Cp.C} {i : Nat} (h : AdIs l c m i 0) : 1 ≤ i ∧ m[i]? = some c ∧ (∃ t, m = l ++ t) ∧ CkIs m 0 ∧ AdIs m c m i 0 ∧ ∀ x ∈ m, x ∈ l ∨ x = c ∨ x = Cp.C0 := by
  rcases h with ⟨-, h, -⟩ | ⟨h1, ⟨-, h, -⟩ | ⟨h2, ⟨h3, -, rfl⟩ | ⟨h3, ⟨-, h, -⟩ | ⟨h4, -, rfl, rfl⟩⟩⟩⟩
  · exact absurd rfl h
  · exact absurd rfl h
  · rcases h3 with ⟨h, -⟩ | ⟨-, k1, k2, k3, k4⟩
    · cases h
    · exact ⟨k1, k3, ⟨[], by simp⟩, h1, .inr ⟨h1, .inr ⟨h2, .inl ⟨.inr ⟨rfl, k1, k2, k3, k4⟩, rfl, rfl⟩⟩⟩, fun x hx => .inl hx⟩
  · omega
  · have hck := app_ok h1 h2 h4
    obtain ⟨t, ht⟩ := app_pre (hdP l) c
    obtain ⟨t2, ht2⟩ := hd_pre l
    have hi : (appE (hdP l) c)[(hdP l).length]? = some c := by rw [ht, List.getElem?_append_right (Nat.le_refl _)]; simp
    have h0 := (hd_ok h1).1
    have hct : c.t ≠ 0 := by
      have := (ce_size h2).1
      intro e
      rw [e] at this
      cases this
    refine ⟨by omega, hi, ⟨t2 ++ (c :: t), by rw [ht]; conv => lhs; rw [ht2]
                                              rw [List.append_assoc]⟩, hck, .inr ⟨hck, .inr ⟨h2, .inl ⟨.inr ⟨rfl, by omega, hct, hi, fun j hj hlt hc => ?_⟩, rfl, rfl⟩⟩⟩, fun x hx => ?_⟩
    · rcases h3 with ⟨-, -, k⟩ | ⟨k, -⟩
      · rw [ht, List.getElem?_append_left hlt] at hc
        refine k j hj hct ?_
        unfold hdP at hc hlt
        by_cases hl : l.length = 0
        · rw [if_pos hl, List.length_append, hl] at hlt
          simp only [List.length_cons, List.length_nil] at hlt
          omega
        · rw [if_neg hl] at hc
          exact hc
      · cases k
    · unfold appE at hx
      have hh : ∀ y ∈ hdP l, y ∈ l ∨ y = Cp.C0 := by
        intro y hy
        unfold hdP at hy
        by_cases hl : l.length = 0
        · rw [if_pos hl] at hy
          rcases List.mem_append.1 hy with hy | hy
          · exact .inl hy
          · exact .inr (by simpa using hy)
        · rw [if_neg hl] at hy
          exact .inl hy
      have h7 : x ∈ hdP l ∨ x = c ∨ x = Cp.C0 := by
        by_cases h5 : c.t = 5
        · rw [if_pos h5] at hx
          rcases List.mem_append.1 hx with hx | hx
          · rcases List.mem_append.1 hx with hx | hx
            · exact .inl hx
            · exact .inr (.inl (by simpa using hx))
          · exact .inr (.inr (by simpa using hx))
        · rw [if_neg h5] at hx
          rcases List.mem_append.1 hx with hx | hx
          · exact .inl hx
          · exact .inr (.inl (by simpa using hx))
      rcases h7 with h7 | h7 | h7
      · rcases hh x h7 with h8 | h8
        · exact .inl h8
        · exact .inr (.inr h8)
      · exact .inr (.inl h7)
      · exact .inr (.inr h7)
end Go.Proofs.YtjnjnfhboafcgaaGreatDoor.L3
namespace Go.Proofs.YtjnjnfhboafcgaaGreatDoor.L3
open Go.RowKit

/-- The entry at an index, if it has a tag. -/
def enA (l : List Cp.C) (i tag : Int) : Option Cp.C := if 0 ≤ i ∧ i < l.length then (match l[i.toNat]? with
  | some c => if c.t = tag then some c else none
  | none => none) else none
/-- How an entry that may not be is told: the entry, or an empty one. -/
def enV (x : Option Cp.C) : Cp.C := x.getD Cp.C0
def erV {α : Type} (x : Option α) : Int := match x with | some _ => 0 | none => 33
theorem enA_cases (l : List Cp.C) (i tag : Int) : (i < 0 ∧ enA l i tag = none) ∨ (¬ i < 0 ∧ (l.length : Int) ≤ i ∧ enA l i tag = none) ∨ (∃ (k : Nat) (c : Cp.C), i = k ∧ k < l.length ∧ l[k]? = some c ∧ ((c.t = tag ∧ enA l i tag = some c) ∨ (c.t ≠ tag ∧ enA l i tag = none))) := by
  unfold enA
  by_cases h0 : i < 0
  · exact .inl ⟨h0, by rw [if_neg (by omega)]⟩
  · by_cases h1 : (l.length : Int) ≤ i
    · exact .inr (.inl ⟨h0, h1, by rw [if_neg (by omega)]⟩)
    · obtain ⟨k, rfl⟩ := Int.eq_ofNat_of_zero_le (show 0 ≤ i by omega)
      have hk : k < l.length := by omega
      refine .inr (.inr ⟨k, l[k], rfl, hk, List.getElem?_eq_getElem hk, ?_⟩)
      rw [if_pos (by omega), show ((k : Int)).toNat = k by omega, List.getElem?_eq_getElem hk]
      dsimp only
      by_cases ht : l[k].t = tag
      · exact .inl ⟨ht, by rw [if_pos ht]⟩
      · exact .inr ⟨ht, by rw [if_neg ht]⟩
set_option maxRecDepth 100000 in
set_option maxHeartbeats 1000000 in
theorem entryAt_any (l : List Cp.C) (i tag : Int) (v : Value) (w : World) (hv : Kit.IsS 5 w v l.length (l.flatMap cL)) :
    Calls Tryz.prog 120 #[v, .int .i64 i, .int .i64 tag] w fun e w' => e = .returned (.tuple #[.agg (cC (enV (enA l i tag))), .int .i64 (erV (enA l i tag))]) ∧ Below w.heap.size w w' := by
  have hlen := hv.2.1
  rcases enA_cases l i tag with ⟨h0, hn⟩ | ⟨h0, h1, hn⟩ | ⟨k, c, rfl, hk, hc, ⟨ht, hn⟩ | ⟨ht, hn⟩⟩
  · obtain ⟨a, cap, rfl⟩ := hv.len
    rw [hn]
    have hd : decide (i < 0) = true := by simpa using h0
    clear hv hn
    go_enter Tryz.func120, Tryz.ntmps120; go_wp2
    exact bodyPost_ret (v := .tuple #[.agg #[.int .i64 0, .string ⟨#[]⟩, .int .i64 0, .int .i64 0, .int .i64 0], .int .i64 33]) (by simp [results, Tryz.results120, go_sem]) rfl ⟨rfl, (by repeat' first | with_reducible exact Below.refl _ _ | with_reducible assumption | with_reducible refine belows_drewN ?_ _ | with_reducible refine Below.drew ?_ | with_reducible refine Below.setCell ?_ ?_ _ | with_reducible refine Below.alloc ?_ ?_ _ | omega | (simp; done) | (simp; omega))⟩
  · obtain ⟨a, cap, rfl⟩ := hv.len
    rw [hn]
    have hd : decide (i < 0) = false := by simpa using h0
    have hd2 : decide ((l.length : Int) ≤ i) = true := by simpa using h1
    clear hv hn
    go_enter Tryz.func120, Tryz.ntmps120; go_wp2
    exact bodyPost_ret (v := .tuple #[.agg #[.int .i64 0, .string ⟨#[]⟩, .int .i64 0, .int .i64 0, .int .i64 0], .int .i64 33]) (by simp [results, Tryz.results120, go_sem]) rfl ⟨rfl, (by repeat' first | with_reducible exact Below.refl _ _ | with_reducible assumption | with_reducible refine belows_drewN ?_ _ | with_reducible refine Below.drew ?_ | with_reducible refine Below.setCell ?_ ?_ _ | with_reducible refine Below.alloc ?_ ?_ _ | omega | (simp; done) | (simp; omega))⟩
  · obtain ⟨b, o, cap, rfl, hb, c0, c1, c2, c3, c4⟩ := c_at hv hc
    rw [hn]
    have hd2 : decide ((l.length : Int) ≤ (k : Int)) = false := by simp; omega
    have hki : (k : Int) < l.length := by omega
    unfold enV erV cC
    dsimp only [Option.getD_some]
    obtain ⟨t, s, n, a, bb⟩ := c
    dsimp only at c0 c1 c2 c3 c4 ht ⊢
    subst ht
    clear hv hn hc
    go_enter Tryz.func120, Tryz.ntmps120; go_wp2
    exact bodyPost_ret (v := .tuple #[.agg #[.int .i64 t, .string s, .int .i64 n, .int .i64 a, .int .i64 bb], .int .i64 0]) (by simp [results, Tryz.results120, go_sem]) rfl ⟨rfl, (by repeat' first | with_reducible exact Below.refl _ _ | with_reducible assumption | with_reducible refine belows_drewN ?_ _ | with_reducible refine Below.drew ?_ | with_reducible refine Below.setCell ?_ ?_ _ | with_reducible refine Below.alloc ?_ ?_ _ | omega | (simp; done) | (simp; omega))⟩
  · obtain ⟨b, o, cap, rfl, hb, c0, c1, c2, c3, c4⟩ := c_at hv hc
    rw [hn]
    have hd2 : decide ((l.length : Int) ≤ (k : Int)) = false := by simp; omega
    have hki : (k : Int) < l.length := by omega
    have hd0 : decide ((k : Int) < 0) = false := by simp
    have hd2n : decide (l.length ≤ k) = false := by simp; omega
    have hd3 : (c.t != tag) = true := by simpa using ht
    clear hv hn hc ht
    go_enter Tryz.func120, Tryz.ntmps120; go_wp2
    exact bodyPost_ret (v := .tuple #[.agg #[.int .i64 0, .string ⟨#[]⟩, .int .i64 0, .int .i64 0, .int .i64 0], .int .i64 33]) (by simp [results, Tryz.results120, go_sem]) rfl ⟨rfl, (by repeat' first | with_reducible exact Below.refl _ _ | with_reducible assumption | with_reducible refine belows_drewN ?_ _ | with_reducible refine Below.drew ?_ | with_reducible refine Below.setCell ?_ ?_ _ | with_reducible refine Below.alloc ?_ ?_ _ | omega | (simp; done) | (simp; omega))⟩
end Go.Proofs.YtjnjnfhboafcgaaGreatDoor.L3
namespace Go.Proofs.YtjnjnfhboafcgaaGreatDoor.L3
open Go.RowKit

def txO (l : List Cp.C) (i : Int) : ByteArray × Int := ((enV (enA l i 1)).s, erV (enA l i 1))
def clO (l : List Cp.C) (i : Int) : ByteArray × Int := match enA l i 7 with
  | none => (⟨#[]⟩, 33)
  | some c => txO l c.a
set_option maxRecDepth 100000 in
set_option maxHeartbeats 400000 in
theorem text_at (l : List Cp.C) (i : Int) (v : Value) (w : World) (hv : Kit.IsS 5 w v l.length (l.flatMap cL)) :
    Calls Tryz.prog 63 #[v, .int .i64 i] w fun e w' => e = .returned (.tuple #[.string (txO l i).1, .int .i64 (txO l i).2]) ∧ Below w.heap.size w w' := by
  have HE0 := fun W (h : Below w.heap.size w W) => entryAt_any l i 1 v W (hv.below h (Nat.le_refl _))
  unfold txO
  obtain ⟨c, hc⟩ : ∃ c, c = enV (enA l i 1) := ⟨_, rfl⟩
  obtain ⟨er, her⟩ : ∃ er, er = erV (enA l i 1) := ⟨_, rfl⟩
  rw [← hc, ← her] at HE0 ⊢
  unfold cC at HE0
  have HE := hid HE0
  clear HE0 hc her hv
  go_enter Tryz.func63, Tryz.ntmps63
  go_wp2_with (go_at_call 120; refine (HE.out _ (by repeat' first | with_reducible exact Below.refl _ _ | with_reducible assumption | with_reducible refine belows_drewN ?_ _ | with_reducible refine Below.drew ?_ | with_reducible refine Below.setCell ?_ ?_ _ | with_reducible refine Below.alloc ?_ ?_ _ | omega | (simp; done) | (simp; omega))).mono ?_; rintro e w1 ⟨rfl, hb1⟩; have hz1 := hb1.size)
  go_ret2
  exact ⟨rfl, (by repeat' first | with_reducible exact Below.refl _ _ | with_reducible assumption | with_reducible refine belows_drewN ?_ _ | with_reducible refine Below.drew ?_ | with_reducible refine Below.setCell ?_ ?_ _ | with_reducible refine Below.alloc ?_ ?_ _ | omega | (simp; done) | (simp; omega))⟩
set_option maxRecDepth 100000 in
set_option maxHeartbeats 400000 in
theorem class_at (l : List Cp.C) (i : Int) (v : Value) (w : World) (hv : Kit.IsS 5 w v l.length (l.flatMap cL)) :
    Calls Tryz.prog 61 #[v, .int .i64 i] w fun e w' => e = .returned (.tuple #[.string (clO l i).1, .int .i64 (clO l i).2]) ∧ Below w.heap.size w w' := by
  have HE0 := fun W (h : Below w.heap.size w W) => entryAt_any l i 7 v W (hv.below h (Nat.le_refl _))
  have HT0 := fun j W (h : Below w.heap.size w W) => text_at l j v W (hv.below h (Nat.le_refl _))
  unfold clO
  cases hx : enA l i 7 with
  | none =>
    rw [hx] at HE0
    unfold enV erV Cp.C0 cC at HE0
    dsimp only [Option.getD_none] at HE0
    have HE := hid HE0
    clear HE0 hx hv HT0
    go_enter Tryz.func61, Tryz.ntmps61
    go_wp2_with (go_at_call 120; refine (HE.out _ (by repeat' first | with_reducible exact Below.refl _ _ | with_reducible assumption | with_reducible refine belows_drewN ?_ _ | with_reducible refine Below.drew ?_ | with_reducible refine Below.setCell ?_ ?_ _ | with_reducible refine Below.alloc ?_ ?_ _ | omega | (simp; done) | (simp; omega))).mono ?_; rintro e w1 ⟨rfl, hb1⟩; have hz1 := hb1.size)
    go_ret2
    exact ⟨rfl, (by repeat' first | with_reducible exact Below.refl _ _ | with_reducible assumption | with_reducible refine belows_drewN ?_ _ | with_reducible refine Below.drew ?_ | with_reducible refine Below.setCell ?_ ?_ _ | with_reducible refine Below.alloc ?_ ?_ _ | omega | (simp; done) | (simp; omega))⟩
  | some c =>
    rw [hx] at HE0
    unfold enV erV cC at HE0
    dsimp only [Option.getD_some] at HE0 ⊢
    have HE := hid HE0
    have HT := hid (HT0 c.a)
    clear HE0 hx hv HT0
    go_enter Tryz.func61, Tryz.ntmps61
    go_wp2_with (first | (go_at_call 120; refine (HE.out _ (by repeat' first | with_reducible exact Below.refl _ _ | with_reducible assumption | with_reducible refine belows_drewN ?_ _ | with_reducible refine Below.drew ?_ | with_reducible refine Below.setCell ?_ ?_ _ | with_reducible refine Below.alloc ?_ ?_ _ | omega | (simp; done) | (simp; omega))).mono ?_; rintro e w1 ⟨rfl, hb1⟩; have hz1 := hb1.size) | (go_at_call 63; refine (HT.out _ (by repeat' first | with_reducible exact Below.refl _ _ | with_reducible assumption | with_reducible refine belows_drewN ?_ _ | with_reducible refine Below.drew ?_ | with_reducible refine Below.setCell ?_ ?_ _ | with_reducible refine Below.alloc ?_ ?_ _ | omega | (simp; done) | (simp; omega))).mono ?_; rintro e w2 ⟨rfl, hb2⟩))
    go_ret2
    exact ⟨rfl, belows (hb1.alloc hb1.size (.cells #[.int .i64 c.t, .string c.s, .int .i64 c.n, .int .i64 c.a, .int .i64 c.b] 56)) hb2 (by rw [World.size_alloc]; have := hb1.size; omega)⟩
end Go.Proofs.YtjnjnfhboafcgaaGreatDoor.L3
namespace Go.Proofs.YtjnjnfhboafcgaaGreatDoor.L3
open Go.RowKit

/-- Numbers as bytes. -/
def bsOf (zs : List Int) : List UInt8 := zs.map fun z => UInt8.ofNat z.toNat
theorem bsOf_len (zs : List Int) : (bsOf zs).length = zs.length := by unfold bsOf; simp
def Byt (zs : List Int) : Prop := ∀ z ∈ zs, 0 ≤ z ∧ z < 256
theorem bv_of {z : Int} (h : 0 ≤ z ∧ z < 256) : bv (UInt8.ofNat z.toNat) = .int .u8 z := by
  unfold bv
  rw [UInt8.toNat_ofNat']
  congr 1
  omega
theorem bs_of_own {W : World} {base : Nat} {v : Value} {zs : List Int} (h : OwnI W base v zs) (hz : Byt zs) (hn : zs.length ≤ 281474976710656) : Bs W.heap.size W v (bsOf zs) := by
  refine ⟨by rw [bsOf_len]; exact hn, ?_⟩
  have hh := h
  rcases h.2 with ⟨rfl, h0⟩ | ⟨g, cap, cur, rfl, hg, hb, hc1, hc2, hc3, -⟩
  · exact .inl ⟨by rw [List.length_eq_zero_iff.1 h0]; rfl, none, 0, rfl⟩
  · have hcell := hh.cells (g := g) rfl
    refine .inr ⟨g, 0, cap, by rw [bsOf_len], by rw [bsOf_len]; exact hc1, (Array.getElem?_eq_some_iff.1 hb).1, fun i c hc => ?_⟩
    unfold bsOf at hc
    rw [List.getElem?_map, Option.map_eq_some_iff] at hc
    obtain ⟨z, hzi, rfl⟩ := hc
    rw [bv_of (hz z (List.mem_of_getElem? hzi))]
    have := hcell i (.int .u8 z) (by rw [List.getElem?_map, hzi]; rfl)
    rw [Go.WideShapes.add_plain] at this
    exact this
end Go.Proofs.YtjnjnfhboafcgaaGreatDoor.L3
