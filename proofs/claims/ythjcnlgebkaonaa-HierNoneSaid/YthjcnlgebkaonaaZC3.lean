/- Own texts for the claim, part 3. -/
import Derived.Test.YthjcnlgebkaonaaZC2
import Derived.Sort.BigQuietIn
import Derived.OwnWalkIn
import Derived.RangeFuncNested
import Derived.RangeFuncBound
import Derived.RangeFuncCalls
import Derived.RangeFuncLeaves
import Derived.Shelf.Abstract
import Derived.Shelf.RegionOpen
import Derived.TacticsInMore
import Derived.LoopNIn
import Derived.LoopIn
namespace Go.Proofs.Ythjcnlgebkaonaa
open Go Go.RowKit
open Kit (natVals)

theorem infoLn : (Try.prog.info? 56).map (fun i => (i.zero, i.size, i.bytes)) = some (some (.agg #[.string ⟨#[]⟩, .string ⟨#[]⟩]), 2, 32) := by kernel_rfl
theorem src_noneL (c : Nat) (w : World) : Src Try.prog 2 22 (.slice none 0 c) 0 [] w :=
  ⟨.inl ⟨_, Try.underlying22⟩, fun _ => rfl, rfl, rfl, rfl, fun u hu => by cases hu⟩
/-- An append of lines that are read. -/
theorem wpList_lines {ops : Array Oper} {rest : List Oper} {o : Oper} {a : Act} {w : World} {Q : Exit → Act → World → Prop} (hgd : o.guard = none) (s x : Operand)
    (hop : o.op = Op.call { callee := Callee.builtin Builtin.append, args := #[s, x], argTypes := #[22, 22] })
    (B : Nat) (v : Value) (n : Nat) (xs : List Value) (hs : a.eval s = v) (hown : w.ownsRow B 56 2 v n xs) (hB : B ≤ w.heap.size)
    (xv : Value) (m : Nat) (news : List Value) (hx : a.eval x = xv) (hr : Kit.IsS 2 w xv m news) (h1 : ∀ u ∈ news, u.oneCell' = true) (hnm : n + m ≤ 10000000)
    (hK : ∀ v' w', w'.ownsRow B 56 2 v' (n + m) (xs ++ news) → w.grownBy w' v.ownBlock → wpList Try.prog ops Q rest (a.put o.dst v') w') : wpList Try.prog ops Q (o :: rest) a w := by
  obtain ⟨i0, hi, hz0, hz1, hz2⟩ := info_parts infoLn
  have some' : ∀ ad c, xv = .slice (some ad) m c → (∀ j u, news[j]? = some u → w.cell? (ad.add j) = some u) → wpList Try.prog ops Q (o :: rest) a w := fun ad c he hc => by
    subst he
    refine wpList_plain hgd fun K hK2 => ?_
    obtain ⟨v', w', hr', h2, h3, -, h5⟩ := run_append_own_at (P := Try.prog) w B 22 o.type 56 i0 _ 2 32 Try.underlying22 hi hz0 hz1 hz2 rfl (by decide) v n xs hown ad m c news hr.1 hc h1 (by unfold maxLen; omega) (by omega) hB
    unfold Oper.wp execOp
    simp only [hop, resolve, invoke, builtin, Sem.run_bind, Sem.run_pure, Result.andThen_ok, List.map_toArray, List.map_cons, List.map_nil, hs, hx, hr']
    exact hK2 _ _ (hK _ _ h2 h3)
  rcases hr.2.2 with ⟨h0, ad, c, he⟩ | ⟨b, ofs, c, he, -, -, hc⟩
  · subst h0
    have hn : news = [] := List.eq_nil_of_length_eq_zero (by simpa using hr.1)
    cases ad with
    | some ad => exact some' ad c he (fun j u hj => by rw [hn] at hj; simp at hj)
    | none =>
      subst hn he
      have hcap : ∃ ad' n' c', v = .slice ad' n' c' ∧ n' ≤ c' := by
        rcases hown.2 with ⟨h, -⟩ | ⟨g, cap, cur, h, -, -, h4, -⟩
        · exact ⟨none, 0, 0, h, Nat.le_refl _⟩
        · exact ⟨_, _, _, h, h4⟩
      obtain ⟨ad', n', c', he', hle⟩ := hcap
      refine wpList_plain hgd fun K hK2 => ?_
      have hr' := run_append_nothing (P := Try.prog) w 22 22 o.type 56 i0 Try.underlying22 hi ad' n' c' hle (.slice none 0 c) (by rw [hz1]; exact src_noneL c w)
      rw [← he'] at hr'
      unfold Oper.wp execOp
      simp only [hop, resolve, invoke, builtin, Sem.run_bind, Sem.run_pure, Result.andThen_ok, List.map_toArray, List.map_cons, List.map_nil, hs, hx, hr']
      exact hK2 _ _ (hK _ _ (by simpa using hown) ⟨rfl, rfl, rfl, Nat.le_refl _, fun _ _ _ => rfl⟩)
  · exact some' _ c he (fun j u hj => by rw [Go.WideShapes.add_plain]; exact hc j u hj)
theorem lines_one (l : List Hi.Ln) : ∀ u ∈ l.flatMap lnL, u.oneCell' = true := by
  intro u hu
  obtain ⟨x, -, hx⟩ := List.mem_flatMap.1 hu
  simp only [lnL, List.mem_cons, List.not_mem_nil, or_false] at hx
  rcases hx with rfl | rfl <;> rfl
set_option maxRecDepth 100000 in
theorem builtIn_any (w : World) : Calls Try.prog 27 #[] w fun e w' => e = .returned (.slice (some ⟨w.heap.size, 0, none⟩) 8 8) ∧ w' = w.alloc (.cells (Hi.bl.flatMap lnL).toArray 56) := by
  go_enter Try.func27, Try.ntmps27
  go_wp2
  go_ret
  exact ⟨rfl, rfl⟩
/-- What hier.New answers. -/
def NewP (l : List Hi.Ln) (w : World) (e : Ending) (w' : World) : Prop :=
  ∃ v, e = .returned (.tuple #[v, .int .i64 (Hi.err l)]) ∧ Below w.heap.size w w' ∧ (Hi.err l ≠ 0 → v = .pointer none) ∧
    (Hi.err l = 0 → ∃ H D, v = .pointer (some ⟨H.hb, 0, none⟩) ∧ HM w' w.heap.size H ∧ HOk H (Hi.sup (Hi.bl ++ l)) D ∧ H.n = 8 + l.length ∧ H.names = Hi.nms (Hi.bl ++ l) ∧ H.nm = Hi.nmf (Hi.bl ++ l))
theorem NewP.bad {l : List Hi.Ln} {w w' : World} {k : Int} (he : Hi.err l = k) (hk : k ≠ 0) (hb : Below w.heap.size w w') : NewP l w (.returned (.tuple #[.pointer none, .int .i64 k])) w' :=
  ⟨_, by rw [he], hb, fun _ => rfl, fun h => absurd (he.symm.trans h) hk⟩
theorem run_makeMapH (w : World) (n : Int) : (Instr.makeMap 46 (some (.int .i64 n))).run Try.prog w = .ok (.map (some w.heap.size)) (w.alloc (.map #[] 0)) := by
  simp [Instr.makeMap, run_underlying Try.underlying46, asInt, asIntOf]
def H0 (hb mb : Nat) (cv ov : Value) (L : List Hi.Ln) : HV := ⟨hb, mb, cv, ov, 0, Hi.nmf L, fun _ => -1, fun _ => 0, fun _ => .slice none 0 0, fun _ => [], []⟩
theorem H0.rep {W : World} {base hb mb : Nat} {cv ov : Value} (L : List Hi.Ln) (h : W.heap[hb]? = some (.cells #[cv, .map (some mb), ov] 48 (0, 0))) (hm : NmM W mb []) (hc : W.ownsRow base 67 4 cv 0 []) (ho : W.ownsRow base 3 1 ov 0 []) (h1 : base ≤ hb) (h2 : base ≤ mb) : HM W base (H0 hb mb cv ov L) :=
  ⟨h, hm, hc, ho, (fun k hk => by cases hk), (fun i j hi => by cases hi), (fun i hi => by cases hi), h1, h2⟩
theorem own_made {W wx : World} {base N s k : Nat} {e : TypeId} {C : Array Value} (hk : k = W.heap.size) (hB : base ≤ W.heap.size) (hC : C.size = N * s) (hN : N ≤ maxLen) (hb : Below (W.heap.size + 1) (W.alloc (.cells C e)) wx) : wx.ownsRow base e s (.slice (some ⟨k, 0, none⟩) 0 N) 0 [] := by
  subst hk
  refine ⟨by simp, .inr ⟨W.heap.size, N, C, rfl, hB, (hb.block _ (by omega)).trans (heap_alloc_last W _), Nat.zero_le _, hN, hC, by simp⟩⟩
theorem box_made {W wx : World} {k : Nat} {cs : Array Value} {T : TypeId} (hk : k = W.heap.size) (hb : Below (W.heap.size + 1) (W.alloc (.cells cs T)) wx) : wx.heap[k]? = some (.cells cs T (0, 0)) := by
  subst hk
  exact (hb.block _ (by omega)).trans (heap_alloc_last W _)
theorem map_made {W wx : World} {k : Nat} (hk : k = W.heap.size) (hb : Below (W.heap.size + 1) (W.alloc (.map #[] 0)) wx) : NmM wx k [] := by
  subst hk
  exact (NmM.new W).keep (hb.block _ (by omega))
theorem err_long {l : List Hi.Ln} (h : 64 < l.length) : Hi.err l = 3 := by unfold Hi.err; rw [if_pos h]
theorem err_name {l : List Hi.Ln} (h : ¬ 64 < l.length) (h1 : ¬ (Hi.nms (Hi.bl ++ l)).Nodup) : Hi.err l = 70 := by unfold Hi.err Hi.errL; rw [if_neg h, if_pos h1]
theorem err_super {l : List Hi.Ln} (h : ¬ 64 < l.length) (h1 : (Hi.nms (Hi.bl ++ l)).Nodup) (h2 : ∃ k x, 1 ≤ k ∧ (Hi.bl ++ l)[k]? = some x ∧ Hi.idx x.2 (Hi.nms (Hi.bl ++ l)) = none) : Hi.err l = 71 := by
  unfold Hi.err Hi.errL
  rw [if_neg h, if_neg (fun k => k h1), if_pos h2]
theorem err_cycle {l : List Hi.Ln} (h : ¬ 64 < l.length) (h1 : (Hi.nms (Hi.bl ++ l)).Nodup) (h2 : ∀ k x, 1 ≤ k → (Hi.bl ++ l)[k]? = some x → Hi.idx x.2 (Hi.nms (Hi.bl ++ l)) ≠ none) (h3 : ¬ ∃ D, Hi.Tr (Hi.bl ++ l).length (Hi.sup (Hi.bl ++ l)) D) : Hi.err l = 72 := by
  unfold Hi.err Hi.errL
  rw [if_neg h, if_neg (fun k => k h1), if_neg (by rintro ⟨k, x, a, b, c⟩; exact h2 k x a b c), if_pos h3]
theorem err_ok {l : List Hi.Ln} (h : ¬ 64 < l.length) (h1 : (Hi.nms (Hi.bl ++ l)).Nodup) (h2 : ∀ k x, 1 ≤ k → (Hi.bl ++ l)[k]? = some x → Hi.idx x.2 (Hi.nms (Hi.bl ++ l)) ≠ none) (h3 : ∃ D, Hi.Tr (Hi.bl ++ l).length (Hi.sup (Hi.bl ++ l)) D) : Hi.err l = 0 := by
  unfold Hi.err Hi.errL
  rw [if_neg h, if_neg (fun k => k h1), if_neg (by rintro ⟨k, x, a, b, c⟩; exact h2 k x a b c), if_neg (fun k => k h3)]
theorem bl_small : ∀ x ∈ Hi.bl, x.1.size ≤ maxLen ∧ x.2.size ≤ maxLen := by
  intro x hx
  have : x.1.size ≤ 100 ∧ x.2.size ≤ 100 := by revert x; decide
  unfold maxLen
  omega
theorem made_ok {l : List Hi.Ln} {H : HV} {sv : Nat → Value} {ov : Value} {D : Nat → Nat} (hl : l.length ≤ 64) (tr : Hi.Tr (Hi.bl ++ l).length (Hi.sup (Hi.bl ++ l)) D) (hn : H.n = (Hi.bl ++ l).length) :
    HOk { hung H (Hi.bl ++ l) (Hi.bl ++ l).length sv with ov := ov, od := Hi.ordL H.n D, dp := D } (Hi.sup (Hi.bl ++ l)) D := by
  refine ⟨by show Hi.Tr H.n _ _; rw [hn]; exact tr, by show H.n ≤ 72; rw [hn, List.length_append, Hi.bl_len]; omega, fun k hk => ?_, fun k _ => rfl, fun k hk => ?_, rfl⟩
  · show suK _ _ k = _
    have hk' : k < (Hi.bl ++ l).length := by rw [← hn]; exact hk
    unfold suK
    by_cases h0 : k = 0
    · rw [if_pos h0, if_neg (by omega)]
    · rw [if_neg h0, if_pos ⟨by omega, hk'⟩]
  · show Hi.ch (Hi.bl ++ l).length _ k = Hi.ch H.n _ k
    rw [hn]
set_option maxRecDepth 100000 in
set_option maxHeartbeats 2000000 in
theorem New_any {w : World} {lv : Value} {l : List Hi.Ln} (hl : Kit.IsS 2 w lv l.length (l.flatMap lnL)) (hs : ∀ x ∈ l, x.1.size ≤ maxLen ∧ x.2.size ≤ maxLen) : Calls Try.prog 7 #[lv] w (NewP l w) := by
  have hll := hl.2.1
  have HLV := hid (fun X (b : Below w.heap.size w X) => hl.below b (Nat.le_refl _))
  obtain ⟨la, lc, rfl⟩ := hl.len
  clear hl
  by_cases h64 : 64 < l.length
  · have H64 := hid (err_long h64)
    go_enter Try.func7, Try.ntmps7
    go_wp2
    exact bodyPost_ret (v := .tuple #[.pointer none, .int .i64 3]) (by simp [results, Try.results7, go_sem]) rfl (NewP.bad H64.out (by decide) (Below.refl _ _))
  · have H64 := hid h64
    have hl64 : l.length ≤ 64 := by omega
    have HBi := hid (builtIn_any w)
    have HSz := hid (show ∀ x ∈ Hi.bl ++ l, x.1.size ≤ maxLen ∧ x.2.size ≤ maxLen from fun x hx => by
      rcases List.mem_append.1 hx with h | h
      · exact bl_small x h
      · exact hs x h)
    obtain ⟨ic, hic, hc0, hc1, hc2⟩ := info_parts infoC
    obtain ⟨ii, hii, hi0, hi1, hi2⟩ := info_parts infoI
    have hmm := run_makeMapH
    obtain ⟨cc, hcs, hmc⟩ : ∃ cc : Array Value, cc.size = (8 + l.length) * 4 ∧ ∀ W : World, (Instr.makeSlice 45 (.int .i64 0) (.int .i64 (8 + (l.length : Int)))).run Try.prog W = .ok (.slice (some ⟨W.heap.size, 0, none⟩) 0 (8 + l.length)) (W.alloc (.cells cc 67)) := ⟨_, size_madeCells _ _, fun W => by
      have h := run_make (P := Try.prog) (w := W) 45 67 ic _ Try.underlying45 hic hc0 .i64 .i64 0 (8 + (l.length : Int)) (by omega) (by omega) (by rw [hc2]; omega) (by omega)
      rw [hc1, show (8 + (l.length : Int)).toNat = 8 + l.length by omega] at h
      exact h⟩
    obtain ⟨cn, hns, hmi⟩ : ∃ cn : Array Value, cn.size = (8 + l.length) * 1 ∧ ∀ W : World, (Instr.makeSlice 39 (.int .i64 0) (.int .i64 (8 + (l.length : Int)))).run Try.prog W = .ok (.slice (some ⟨W.heap.size, 0, none⟩) 0 (8 + l.length)) (W.alloc (.cells cn 3)) := ⟨_, size_madeCells _ _, fun W => by
      have h := run_make (P := Try.prog) (w := W) 39 3 ii _ Try.underlying39 hii hi0 .i64 .i64 0 (8 + (l.length : Int)) (by omega) (by omega) (by rw [hi2]; omega) (by omega)
      rw [hi1, show (8 + (l.length : Int)).toNat = 8 + l.length by omega] at h
      exact h⟩
    have HCS := hid hcs
    have HNS := hid hns
    clear hcs hns
    have hown0 : (w.alloc (.cells (Hi.bl.flatMap lnL).toArray 56)).ownsRow w.heap.size 56 2 (.slice (some ⟨w.heap.size, 0, none⟩) 8 8) 8 (Hi.bl.flatMap lnL) :=
      ⟨rfl, .inr ⟨w.heap.size, 8, _, rfl, Nat.le_refl _, heap_alloc_last w _, Nat.le_refl _, by unfold maxLen; omega, rfl, rfl⟩⟩
    have HO0 := hid hown0
    clear h64 hs hown0 hic hc0 hc1 hc2 hii hi0 hi1 hi2
    go_enter Try.func7, Try.ntmps7
    go_upto_region 4 with (first | (go_at_call 27; refine HBi.out.mono ?_; rintro e w1 ⟨rfl, rfl⟩) | (at_builtin; refine wpList_lines rfl (.tmp 9) (.tmp 10) rfl w.heap.size (.slice (some ⟨w.heap.size, 0, none⟩) 8 8) 8 (Hi.bl.flatMap lnL) rfl HO0.out (by simp) (.slice la l.length lc) l.length (l.flatMap lnL) rfl (HLV.out _ (by repeat' first | with_reducible exact Below.refl _ _ | with_reducible assumption | with_reducible refine belows_drewN ?_ _ | with_reducible refine Below.drew ?_ | with_reducible refine Below.setCell ?_ ?_ _ | with_reducible refine Below.alloc ?_ ?_ _ | omega | (simp; done) | (simp; omega))) (lines_one l) (by omega) ?_; intro v1 w1 ho1 hg1; have hb1 : Below w.heap.size w w1 := Kit.below_grown ((Below.refl _ w).alloc (Nat.le_refl _) (.cells (Hi.bl.flatMap lnL).toArray 56)) hg1 (by simp) (Kit.own_base HO0.out); obtain ⟨va, vp, rfl⟩ := own_form ho1; have HLn := hid (show Lns w1 w.heap.size (.slice va (8 + l.length) vp) (Hi.bl ++ l) by unfold Lns; rw [List.length_append, Hi.bl_len, List.flatMap_append]; exact ho1); have HB1 := hid hb1; clear ho1 hg1 hb1))
    go_cut [4, 5] (fun v p wx => v = .slice va (8 + l.length) vp ∧ p = .pointer (some ⟨w1.heap.size + 3, 0, none⟩) ∧ ∃ (mb : Nat) (cv ov : Value), Hid (HM wx w.heap.size (H0 (w1.heap.size + 3) mb cv ov (Hi.bl ++ l)) ∧ Below w1.heap.size w1 wx))
    case first =>
      go_region
      all_goals
        go_wp2
        go_meet
        have hm3 : (8 + l.length) ≤ maxLen := by unfold maxLen; omega
        have hz1 : w.heap.size ≤ w1.heap.size := HB1.out.size
        have e1 : ∀ W : World, ∀ o : Obj, W.heap.size + 1 ≤ (W.alloc o).heap.size := fun W o => by rw [World.size_alloc]; exact Nat.le_refl _
        have e2 : ∀ (W : World) (o o2 : Obj), W.heap.size + 1 ≤ ((W.alloc o).alloc o2).heap.size := fun W o o2 => by rw [World.size_alloc, World.size_alloc]; omega
        have e3 : ∀ (W : World) (o o2 o3 : Obj), W.heap.size + 1 ≤ (((W.alloc o).alloc o2).alloc o3).heap.size := fun W o o2 o3 => by rw [World.size_alloc, World.size_alloc, World.size_alloc]; omega
        refine ⟨rfl, rfl, _, _, _, hid ⟨H0.rep _ (box_made ?_ (Below.drew (Below.refl _ _))) ?_ ?_ ?_ ?_ ?_, ?_⟩⟩
        · simp only [World.size_alloc]
        · first
            | exact map_made (by first | rfl | (repeat rw [World.size_alloc])) (Below.drew ((Below.refl _ _).alloc (e1 _ _) _))
            | exact map_made (by first | rfl | (repeat rw [World.size_alloc])) (Below.drew (((Below.refl _ _).alloc (e1 _ _) _).alloc (e2 _ _ _) _))
            | exact map_made (by first | rfl | (repeat rw [World.size_alloc])) (Below.drew ((((Below.refl _ _).alloc (e1 _ _) _).alloc (e2 _ _ _) _).alloc (e3 _ _ _ _) _))
        · first
            | exact own_made (by first | rfl | (repeat rw [World.size_alloc])) (by first | omega | ((repeat rw [World.size_alloc]); omega)) HCS.out hm3 (Below.drew ((Below.refl _ _).alloc (e1 _ _) _))
            | exact own_made (by first | rfl | (repeat rw [World.size_alloc])) (by first | omega | ((repeat rw [World.size_alloc]); omega)) HCS.out hm3 (Below.drew (((Below.refl _ _).alloc (e1 _ _) _).alloc (e2 _ _ _) _))
            | exact own_made (by first | rfl | (repeat rw [World.size_alloc])) (by first | omega | ((repeat rw [World.size_alloc]); omega)) HCS.out hm3 (Below.drew ((((Below.refl _ _).alloc (e1 _ _) _).alloc (e2 _ _ _) _).alloc (e3 _ _ _ _) _))
        · first
            | exact own_made (by first | rfl | (repeat rw [World.size_alloc])) (by first | omega | ((repeat rw [World.size_alloc]); omega)) HNS.out hm3 (Below.drew ((Below.refl _ _).alloc (e1 _ _) _))
            | exact own_made (by first | rfl | (repeat rw [World.size_alloc])) (by first | omega | ((repeat rw [World.size_alloc]); omega)) HNS.out hm3 (Below.drew (((Below.refl _ _).alloc (e1 _ _) _).alloc (e2 _ _ _) _))
            | exact own_made (by first | rfl | (repeat rw [World.size_alloc])) (by first | omega | ((repeat rw [World.size_alloc]); omega)) HNS.out hm3 (Below.drew ((((Below.refl _ _).alloc (e1 _ _) _).alloc (e2 _ _ _) _).alloc (e3 _ _ _ _) _))
        · omega
        · omega
        · exact Below.drew (((((Below.refl _ w1).alloc (Nat.le_refl _) _).alloc (by simp only [World.size_alloc]; omega) _).alloc (by simp only [World.size_alloc]; omega) _).alloc (by simp only [World.size_alloc]; omega) _)
    case rest =>
      obtain ⟨rfl, rfl, mb, cv0, ov0, HH⟩ := hcut
      obtain ⟨W3, hW3⟩ : ∃ W3, W3 = wc := ⟨_, rfl⟩
      rw [← hW3] at HH ⊢
      clear hW3
      have hz1 := HB1.out.size
      have hbare : Bare (H0 (w1.heap.size + 3) mb cv0 ov0 (Hi.bl ++ l)) (Hi.bl ++ l) := ⟨rfl, rfl, fun _ => rfl, fun _ => rfl, fun _ => rfl, fun _ => rfl, rfl⟩
      have hLl : (Hi.bl ++ l).length ≤ 72 := by rw [List.length_append, Hi.bl_len]; omega
      have hNa := nameAll_any HH.out.1 (HLn.out.below HH.out.2) hbare hLl (fun x hx => (HSz.out x hx).1)
      have HNa := hid hNa
      have HB3 := hid (belows HB1.out HH.out.2 hz1)
      have hz3 := HB3.out.size
      have HPn := hid (show 1 ≤ (Hi.bl ++ l).length by rw [List.length_append, Hi.bl_len]; omega)
      have HLl := hid hLl
      clear HH hbare hLl hNa
      obtain ⟨H1, hH1⟩ : ∃ H1, H1 = H0 (w1.heap.size + 3) mb cv0 ov0 (Hi.bl ++ l) := ⟨_, rfl⟩
      have HH1 := hid hH1
      have ehb : H1.hb = w1.heap.size + 3 := by rw [hH1]; rfl
      rw [← hH1] at HNa
      rw [← ehb]
      clear hH1 ehb
      go_wp2_with fail
      refine HNa.out.mono ?_
      rintro e w4 ⟨hb4, hz4, (⟨rfl, hnd⟩ | ⟨rfl, hnd, cv, hm4, hl4⟩)⟩
      · have HB4 := hid (HB3.out.trans hb4)
        have HE := hid (err_name H64.out hnd)
        clear hnd hb4
        go_wp2
        exact bodyPost_ret (v := .tuple #[.pointer none, .int .i64 70]) (by simp [results, Try.results7, go_sem]) rfl (NewP.bad HE.out (by decide) HB4.out)
      · have HB4 := hid (HB3.out.trans hb4)
        have hHa := hangAll_any hm4 hl4 rfl HLl.out (by show H1.nm = _; rw [HH1.out]; rfl) (fun x hx => (HSz.out x hx).2) (fun k => by show H1.su k = _; rw [HH1.out]; rfl) (fun k => by show H1.sb k = _; rw [HH1.out]; rfl)
        change Calls _ _ #[.pointer (some ⟨H1.hb, 0, none⟩), .slice va (8 + l.length) vp] w4 _ at hHa
        have HHa := hid hHa
        have HND := hid hnd
        clear hHa hm4 hl4 hnd hb4 HNa
        go_wp2_with fail
        refine HHa.out.mono ?_
        rintro e w5 ⟨hb5, hz5, (⟨rfl, hbad⟩ | ⟨rfl, hok, sv, hm5⟩)⟩
        · have HB5 := hid (HB4.out.trans hb5)
          have HE := hid (err_super H64.out HND.out hbad)
          clear hbad hb5
          go_wp2
          exact bodyPost_ret (v := .tuple #[.pointer none, .int .i64 71]) (by simp [results, Try.results7, go_sem]) rfl (NewP.bad HE.out (by decide) HB5.out)
        · have HB5 := hid (HB4.out.trans hb5)
          have hOr := orderAll_any (P := Hi.sup (Hi.bl ++ l)) hm5 HPn.out HLl.out (fun k _ _ => Hi.sup_lt _ HPn.out k) (fun k _ => rfl) (by show H1.od = _; rw [HH1.out]; rfl) (by show H1.dp = _; rw [HH1.out]; rfl)
          change Calls _ _ #[.pointer (some ⟨H1.hb, 0, none⟩)] w5 _ at hOr
          have HOr := hid hOr
          have HOk := hid hok
          clear hOr hm5 hok hb5 HHa
          go_wp2_with fail
          refine HOr.out.mono ?_
          rintro e w6 ⟨hb6, hz6, (⟨rfl, hbad⟩ | ⟨rfl, D, ov, tr, hm6⟩)⟩
          · have HB6 := hid (HB5.out.trans hb6)
            have HE := hid (err_cycle H64.out HND.out HOk.out hbad)
            clear hbad hb6
            go_wp2
            exact bodyPost_ret (v := .tuple #[.pointer none, .int .i64 72]) (by simp [results, Try.results7, go_sem]) rfl (NewP.bad HE.out (by decide) HB6.out)
          · have HB6 := hid (HB5.out.trans hb6)
            have HE := hid (err_ok H64.out HND.out HOk.out ⟨D, tr⟩)
            have HT := hid tr
            have HM6 := hid hm6
            clear hm6 tr hb6
            go_wp2
            refine bodyPost_ret (v := .tuple #[.pointer (some ⟨H1.hb, 0, none⟩), .int .i64 0]) (by simp [results, Try.results7, go_sem]) rfl ⟨.pointer (some ⟨H1.hb, 0, none⟩), by rw [HE.out], HB6.out, fun h => absurd HE.out h, fun _ => ⟨{ hung { H1 with cv := cv, n := (Hi.bl ++ l).length } (Hi.bl ++ l) (Hi.bl ++ l).length sv with ov := ov, od := Hi.ordL (Hi.bl ++ l).length D, dp := D }, D, rfl, HM6.out, made_ok (H := { H1 with cv := cv, n := (Hi.bl ++ l).length }) hl64 HT.out rfl, by show (Hi.bl ++ l).length = _; rw [List.length_append, Hi.bl_len], ?_, ?_⟩⟩
            · show (List.range (Hi.bl ++ l).length).map H1.nm = _
              rw [HH1.out]
              exact (Hi.nms_eq _).symm
            · show H1.nm = _
              rw [HH1.out]
              rfl
end Go.Proofs.Ythjcnlgebkaonaa
namespace Go.Proofs.Ythjcnlgebkaonaa
open Go Go.RowKit
open Kit (natVals)

/-- hier.New, where the lines are a hierarchy; and where they are none. -/
theorem New_yes {w : World} {lv : Value} {l : List Hi.Ln} (hl : Kit.IsS 2 w lv l.length (l.flatMap lnL)) (hs : ∀ x ∈ l, x.1.size ≤ maxLen ∧ x.2.size ≤ maxLen) (he : Hi.err l = 0) : Calls Try.prog 7 #[lv] w fun e w' =>
    ∃ H D, e = .returned (.tuple #[.pointer (some ⟨H.hb, 0, none⟩), .int .i64 0]) ∧ Below w.heap.size w w' ∧ HM w' w.heap.size H ∧ HOk H (Hi.sup (Hi.bl ++ l)) D ∧ H.n = 8 + l.length ∧ H.names = Hi.nms (Hi.bl ++ l) ∧ H.nm = Hi.nmf (Hi.bl ++ l) :=
  (New_any hl hs).mono fun e w' ⟨v, h1, h2, _, h4⟩ => by
    obtain ⟨H, D, rfl, a, b, c, d, f⟩ := h4 he
    rw [he] at h1
    exact ⟨H, D, h1, h2, a, b, c, d, f⟩
theorem New_no {w : World} {lv : Value} {l : List Hi.Ln} (hl : Kit.IsS 2 w lv l.length (l.flatMap lnL)) (hs : ∀ x ∈ l, x.1.size ≤ maxLen ∧ x.2.size ≤ maxLen) (he : Hi.err l ≠ 0) : Calls Try.prog 7 #[lv] w fun e w' =>
    e = .returned (.tuple #[.pointer none, .int .i64 (Hi.err l)]) ∧ Below w.heap.size w w' :=
  (New_any hl hs).mono fun e w' ⟨v, h1, h2, h3, _⟩ => by
    rw [h3 he] at h1
    exact ⟨h1, h2⟩
def lv2 : List Hi.Ln := [(⟨#[66]⟩, ⟨#[65]⟩), (⟨#[65]⟩, Hi.bO)]
def d2 : Nat → Nat := fun k => match k with | 0 => 0 | 1 => 1 | 8 => 2 | 9 => 1 | _ => 2
theorem tr2 : Hi.Tr 10 (Hi.sup (Hi.bl ++ lv2)) d2 := by
  refine ⟨by omega, fun k _ _ => Hi.sup_lt _ (by decide) k, rfl, fun k h1 hk => ?_⟩
  match k, h1, hk with
  | 1, _, _ | 2, _, _ | 3, _, _ | 4, _, _ | 5, _, _ | 6, _, _ | 7, _, _ | 8, _, _ | 9, _, _ => decide
theorem err2 : Hi.err lv2 = 0 := by
  refine err_ok (by decide) (by decide) (fun k x h1 hx => ?_) ⟨d2, tr2⟩
  have hk : k < 10 := (List.getElem?_eq_some_iff.1 hx).1
  match k, h1, hk with
  | 1, _, _ | 2, _, _ | 3, _, _ | 4, _, _ | 5, _, _ | 6, _, _ | 7, _, _ | 8, _, _ | 9, _, _ => cases hx; decide
theorem und2 {D : Nat → Nat} (t : Hi.Tr 10 (Hi.sup (Hi.bl ++ lv2)) D) {a b : Nat} (ha : a < 10) (hb : b < 10) : Hi.und (Hi.sup (Hi.bl ++ lv2)) D a b = Hi.und (Hi.sup (Hi.bl ++ lv2)) d2 a b := by
  have e1 := tr2.one t (d2 a) a ha rfl
  have e2 := tr2.one t (d2 b) b hb rfl
  unfold Hi.und
  rw [e1, e2]
theorem cm2 {D : Nat → Nat} (t : Hi.Tr 10 (Hi.sup (Hi.bl ++ lv2)) D) {a b : Nat} (ha : a < 10) (hb : b < 10) : Hi.cm (Hi.sup (Hi.bl ++ lv2)) D a b = Hi.cm (Hi.sup (Hi.bl ++ lv2)) d2 a b := by
  have e1 := tr2.one t (d2 a) a ha rfl
  have e2 := tr2.one t (d2 b) b hb rfl
  unfold Hi.cm
  rw [e1, e2]
set_option maxRecDepth 100000 in
set_option maxHeartbeats 1000000 in
theorem live_any (w : World) : Calls Try.prog 9 #[] w fun e w' => e = .returned (.bool true) ∧ Below w.heap.size w w' := by
  have hl0 : Kit.IsS 2 (w.alloc (.cells (lv2.flatMap lnL).toArray 56)) (.slice (some ⟨w.heap.size, 0, none⟩) 2 2) lv2.length (lv2.flatMap lnL) :=
    ⟨rfl, by decide, .inr ⟨w.heap.size, 0, 2, rfl, by decide, by simp, fun i u hi => by rw [Nat.zero_add, BX.cell (BX.new w _ _)]; simpa using hi⟩⟩
  have HN := hid (New_yes hl0 (by intro x hx; have : x.1.size ≤ 100 ∧ x.2.size ≤ 100 := by revert x; decide
                                  unfold maxLen; omega) err2)
  clear hl0
  have hb0 : Below w.heap.size w (w.alloc (.cells (lv2.flatMap lnL).toArray 56)) := (Below.refl _ _).alloc (Nat.le_refl _) _
  have HB0 := hid hb0
  obtain ⟨W0, hW0⟩ : ∃ W0, W0 = w.alloc (.cells (lv2.flatMap lnL).toArray 56) := ⟨_, rfl⟩
  have HW0 := hid hW0
  rw [← hW0] at HN HB0
  clear hW0 hb0
  go_enter Try.func9, Try.ntmps9
  go_wp2_with fail
  change Calls _ _ _ (w.alloc (.cells (lv2.flatMap lnL).toArray 56)) _
  rw [← HW0.out]
  refine HN.out.mono ?_
  rintro e w1 ⟨H, D, rfl, hb1, hm, ok, hn, hnm, -⟩
  have hB1 := belows HB0.out hb1 HB0.out.size
  have hn10 : H.n = 10 := hn
  have hF := Find_any hm ⟨#[65]⟩ (by unfold maxLen; decide)
  rw [hnm, show Hi.idx ⟨#[65]⟩ (Hi.nms (Hi.bl ++ lv2)) = some 9 by decide] at hF
  have hL := Len_any hm
  rw [hn10] at hL
  have tr := ok.tr
  rw [hn10] at tr
  have hU1 := Under_any hm ok 8 9
  have hU2 := Under_any hm ok 9 8
  have hC := Common_any hm ok 8 2
  unfold HV.underO at hU1 hU2
  unfold HV.commonO at hC
  rw [hn10, show isC 10 8 = true by decide, show isC 10 9 = true by decide, Bool.true_and, Bool.true_and, show (8 : Int).toNat = 8 from rfl, show (9 : Int).toNat = 9 from rfl, und2 tr (by omega) (by omega)] at hU1 hU2
  rw [show Hi.und (Hi.sup (Hi.bl ++ lv2)) d2 8 9 = true by decide] at hU1
  rw [show Hi.und (Hi.sup (Hi.bl ++ lv2)) d2 9 8 = false by decide] at hU2
  rw [hn10, show (isC 10 8 && isC 10 2) = true by decide, if_pos rfl, show (8 : Int).toNat = 8 from rfl, show (2 : Int).toNat = 2 from rfl, cm2 tr (by omega) (by omega), show Hi.cm (Hi.sup (Hi.bl ++ lv2)) d2 8 2 = 0 by decide] at hC
  have HF := hid hF
  have HL := hid hL
  have HU1 := hid hU1
  have HU2 := hid hU2
  have HC := hid hC
  have HB1 := hid hB1
  obtain ⟨hb, hhb⟩ : ∃ hb, H.hb = hb := ⟨_, rfl⟩
  rw [hhb] at HF HL HU1 HU2 HC ⊢
  clear hF hL hU1 hU2 hC hB1 hm ok hn hnm hn10 tr hb1 hhb HN HB0 HW0
  go_wp2_with (first | (go_at_call 20; refine HF.out.mono ?_; rintro e w' ⟨rfl, rfl⟩) | (go_at_call 17; refine HL.out.mono ?_; rintro e w' ⟨rfl, rfl⟩) | (go_at_call 12; refine HC.out.mono ?_; rintro e w' ⟨rfl, m, rfl⟩) | (go_at_call 10; (with_reducible refine HU1.out.mono ?_); rintro e w' ⟨rfl, rfl⟩) | (go_at_call 10; (with_reducible refine HU2.out.mono ?_); rintro e w' ⟨rfl, rfl⟩))
  go_ret
  exact ⟨by simp, belows HB1.out (below_drewN _ _) HB1.out.size⟩
end Go.Proofs.Ythjcnlgebkaonaa
namespace Go.Proofs.Ythjcnlgebkaonaa
open Go Go.RowKit
open Kit (natVals)

attribute [local go_sem] Oper.semAt_some

set_option maxRecDepth 100000 in
theorem Order_any {w : World} {base : Nat} {H : HV} (h : HM w base H) : Calls Try.prog 15 #[.pointer (some ⟨H.hb, 0, none⟩)] w fun e w' => e = .returned (.func (.func 36) #[] #[.pointer (some ⟨w.heap.size, 0, none⟩)]) ∧ w' = w.alloc (.cells #[H.ov] 39) := by
  obtain ⟨-, -, k2⟩ := h.cells
  have hbl := h.hb_lt
  obtain ⟨c, p, hc⟩ := own_form h.ord
  rw [hc] at k2 ⊢
  clear h hc
  go_enter Try.func15, Try.ntmps15
  go_wp2
  go_ret
  exact ⟨rfl, rfl⟩
/-- Blocks that stay as they are. -/
def Kp (lo hi : Nat) (A B : World) : Prop := A.heap.size ≤ B.heap.size ∧ ∀ k, lo ≤ k → k < hi → B.heap[k]? = A.heap[k]?
theorem Kp.refl (lo hi : Nat) (A : World) : Kp lo hi A A := ⟨Nat.le_refl _, fun _ _ _ => rfl⟩
theorem Kp.trans {lo hi : Nat} {A B C : World} (h : Kp lo hi A B) (k : Kp lo hi B C) : Kp lo hi A C := ⟨Nat.le_trans h.1 k.1, fun i h1 h2 => (k.2 i h1 h2).trans (h.2 i h1 h2)⟩
theorem Kp.below {lo hi n : Nat} {A B C : World} (h : Kp lo hi A B) (hb : Below n B C) (hn : hi ≤ n) : Kp lo hi A C := h.trans ⟨hb.size, fun i _ h2 => hb.block i (by omega)⟩
theorem Kp.grown {lo hi : Nat} {A B C : World} {row : Option Nat} (h : Kp lo hi A B) (hg : B.grownBy C row) (hh : hi ≤ B.heap.size) (hr : ∀ k, row = some k → k < lo ∨ hi ≤ k) : Kp lo hi A C :=
  h.trans ⟨hg.size, fun i h1 h2 => hg.block i (by omega) (fun e => by have := hr i e.symm; omega)⟩
theorem grownBy_setCell' (w : World) (p : Addr) (v : Value) : w.grownBy (w.setCell p v) (some p.block) := ⟨rfl, rfl, rfl, by simp, fun i _ hne => Below.heap_setCell _ _ _ i (fun e => hne (by rw [e]))⟩
theorem Kp.set {lo hi b : Nat} {A B : World} (h : Kp lo hi A B) (hp : hi ≤ b) (hh : hi ≤ B.heap.size) (u : Value) : Kp lo hi A (B.setCell ⟨b, 0, none⟩ u) :=
  h.grown (grownBy_setCell' B ⟨b, 0, none⟩ u) hh (fun k e => by cases e; exact .inr hp)
theorem Kp.putObj {lo hi : Nat} {w : World} (hn : hi ≤ w.heap.size) (W : World) (l : Nat) (o o' : Obj) (hl : w.heap.size ≤ l) (h : W.heap[l]? = some o) (_ : o.isCells = false) (_ : o.isWalk = false) : Kp lo hi W (W.putObj l o') :=
  (Kp.refl lo hi W).grown (grownBy_putObj' W l o') (by have := (Array.getElem?_eq_some_iff.1 h).1; omega) (fun k e => by cases e; omega)
/-- A number that is told, and its place. -/
abbrev Tx (l : List Nat) := { x : Nat × Nat // l[x.1]? = some x.2 }
/-- What is told: the first so many. -/
def told (l : List Nat) : Nat → List (Tx l)
  | 0 => []
  | k + 1 => told l k ++ (match h : l[k]? with | some c => [⟨(k, c), h⟩] | none => [])
theorem told_yes {l : List Nat} {k c : Nat} (h : l[k]? = some c) : told l (k + 1) = told l k ++ [⟨(k, c), h⟩] := by
  show told l k ++ _ = _
  congr 1
  split
  · rename_i d hd
    obtain rfl := Option.some.inj (hd.symm.trans h)
    rfl
  · rename_i hd
    rw [hd] at h
    cases h
theorem told_len (l : List Nat) : ∀ k, k ≤ l.length → (told l k).length = k
  | 0, _ => rfl
  | k + 1, h => by
    have hk : l[k]? = some l[k] := List.getElem?_eq_getElem (by omega)
    rw [told_yes hk, List.length_append, told_len l k (by omega)]
    rfl
theorem told_last {l : List Nat} {k : Nat} {pre : List (Tx l)} {x : Tx l} (hk : k ≤ l.length) (h : told l k = pre ++ [x]) : x.1.1 = pre.length := by
  cases k with
  | zero =>
    have := congrArg List.length h
    simp [told] at this
  | succ k =>
    have h1 : l[k]? = some l[k] := List.getElem?_eq_getElem (by omega)
    rw [told_yes h1] at h
    obtain ⟨e1, e2⟩ := List.append_inj' h rfl
    have e3 := told_len l k (by omega)
    rw [e1] at e3
    simp only [List.cons.injEq, and_true] at e2
    rw [← e2]
    exact e3.symm
def entE {l : List Nat} (x : Tx l) : Array Value := #[.int .i64 (x.1.2 : Int)]
set_option maxRecDepth 100000 in
set_option maxHeartbeats 1000000 in
theorem order1_stops (l : List Nat) (v : Value) (lo hi Bs n : Nat) (w : World) (hn : 1 ≤ n) (hhi : hi ≤ w.heap.size) (hb : ∀ X, Kp lo hi w X → Kit.IsS 1 X v l.length (natVals l) ∧ X.cell? ⟨Bs, 0, none⟩ = some v) :
    SeqStopsK Fence.wide n Try.prog 36 #[.pointer (some ⟨Bs, 0, none⟩)] entE (Kp lo hi) (fun ys => ys = told l l.length) (fun ys => ∃ k, k ≤ l.length ∧ ys = told l k) l.length w := fun D J Jx W hW hJ _ hY h0 => by
  have HB := hid hb
  obtain ⟨a, cap, hv⟩ := (hb w (Kp.refl _ _ _)).1.len
  subst hv
  have hlen := (hb w (Kp.refl _ _ _)).1.2.1
  have hKW : Kp lo hi w W := (Kp.refl _ _ _).below hW hhi
  have hcW := (hb W hKW).2
  clear hb
  refine callsIn_of_wp Try.func36 rfl trivial ?_ rfl
  simp only [Try.ntmps36, List.size_toArray, List.length_cons, List.length_nil, Nat.reduceAdd, Nat.reduceSub, Array.replicate_succ, Array.replicate_zero, List.push_toArray, List.append_toArray, List.nil_append, List.cons_append]
  gi_wp2
  gi_loopw [7] (fun i wr => ∃ k : Nat, k ≤ l.length ∧ i = .int .i64 k ∧ J (told l k) wr ∧ W.heap.size ≤ wr.heap.size ∧ Kp lo hi w wr) (fun i _ => l.length - (intOf i).toNat)
  case atStart => exact ⟨0, by omega, rfl, h0, Nat.le_refl _, hKW⟩
  case round =>
    obtain ⟨k, hk, rfl, hJs, hzW, hbl⟩ := hrel
    have hzr := hbl.1
    by_cases hlt : k < l.length
    · obtain ⟨c, hx⟩ : ∃ x, l[k]? = some x := ⟨l[k], List.getElem?_eq_getElem hlt⟩
      obtain ⟨b, o, cap', hv, -, hbb, hcs⟩ := (HB.out wr hbl).1.some (by omega)
      obtain ⟨rfl, -, rfl⟩ := Value.slice.inj hv
      have c0 := hcs k _ (Kit.natVals_at hx)
      have hki : (k : Int) < (l.length : Int) := by omega
      have HT := hid (told_yes hx)
      have hln : (told l k).length < l.length := by rw [told_len l k hk]; omega
      have HY := hid (hY (told l k) ⟨(k, c), hx⟩ wr hJs hln)
      clear hv hcs
      obtain ⟨fn, tmps, assign, body, hy, hR⟩ := HY.out
      unfold entE at hy
      dsimp only at hy
      gi_wp2
      refine hR.mono ?_
      rintro e W3 (⟨rfl, hJ3, hk3⟩ | ⟨rfl, hJx3⟩)
      · gi_wp2
        go_roundw
        case rel => exact ⟨k + 1, by omega, by go_num, by rw [HT.out]; exact hJ3, (by have := hk3.1; omega), hbl.trans hk3⟩
        case measure => simp [intOf]; omega
      · gi_wp2
        refine bodyPost_ret (results_none rfl _ _ _) rfl ?_
        exact ⟨⟨_, rfl⟩, .inr ⟨_, ⟨k + 1, by omega, HT.out.symm⟩, hJx3⟩⟩
    · obtain rfl : k = l.length := by omega
      gi_wp2
      refine bodyPost_end (results_none rfl _ _ _) rfl ?_
      exact ⟨⟨_, rfl⟩, .inl ⟨_, rfl, hJs⟩⟩
/-- Where the law's loop stands. -/
def TeJ {l : List Nat} (v : Value) (stop : Int) (hi : Nat) (w : World) (pre : List (Tx l)) (W : World) : Prop :=
  Boxed W w.heap.size 39 v ∧ Boxed W (w.heap.size + 1) 3 (.int .i64 stop) ∧ Boxed W (w.heap.size + 1 + 1) 4 (.bool false) ∧ Boxed W (w.heap.size + 1 + 1 + 1) 3 (.int .i64 (pre.length : Nat)) ∧ Below w.heap.size w W ∧ hi ≤ W.heap.size
theorem TeJ.own {l : List Nat} {v : Value} {stop : Int} {hi n : Nat} {w : World} (hn : w.heap.size ≤ n) : OwnFrom n (TeJ (l := l) v stop hi w) := by
  rintro pre A B row ⟨h0, h1, h2, h3, h5, h6⟩ hg hr
  exact ⟨boxed_own _ _ (fun _ : Unit => v) () A B row h0 hg (fun r e => (hr r e).2), boxed_own _ _ (fun _ : Unit => .int .i64 stop) () A B row h1 hg (fun r e => (hr r e).2), boxed_own _ _ (fun _ : Unit => .bool false) () A B row h2 hg (fun r e => (hr r e).2), boxed_own _ _ (fun _ : Unit => .int .i64 (pre.length : Nat)) () A B row h3 hg (fun r e => (hr r e).2), h5.grown hg h5.size (fun k e => by have := (hr k e).1; omega), Nat.le_trans h6 hg.size⟩
/-- Where it stands when it stops. -/
def TeX {l : List Nat} (w : World) (pre : List (Tx l)) (W : World) : Prop :=
  Hid (∃ b : Bool, Boxed W (w.heap.size + 1 + 1) 4 (.bool b) ∧ (b = false → ∃ p x, pre = p ++ [x] ∧ x.1.1 ≠ p.length)) ∧ Below w.heap.size w W
theorem TeX.own {l : List Nat} {n : Nat} {w : World} (hn : w.heap.size ≤ n) : OwnFrom n (TeX (l := l) w) := by
  rintro pre A B row ⟨⟨b, h1, h2⟩, h7⟩ hg hr
  exact ⟨⟨b, boxed_own _ _ (fun _ : Unit => .bool b) () A B row h1 hg (fun r e => (hr r e).2), h2⟩, h7.grown hg h7.size (fun k e => by have := (hr k e).1; omega)⟩
theorem TeX.is {l : List Nat} {w W : World} {k : Nat} (hk : k ≤ l.length) (h : TeX w (told l k) W) : Boxed W (w.heap.size + 1 + 1) 4 (.bool true) ∧ Below w.heap.size w W := by
  obtain ⟨⟨b, h1, h2⟩, h7⟩ := h
  refine ⟨?_, h7⟩
  cases b with
  | true => exact h1
  | false =>
    obtain ⟨p, x, h3, h4⟩ := h2 rfl
    exact absurd (told_last hk h3) h4
set_option maxRecDepth 100000 in
set_option maxHeartbeats 4000000 in
theorem tells_any (l : List Nat) (ov v : Value) (stop : Int) (lo Bs : Nat) (w : World) (hit : ∀ X, Kp lo w.heap.size w X → Kit.IsS 1 X ov l.length (natVals l) ∧ X.cell? ⟨Bs, 0, none⟩ = some ov) (hv : Kit.IsS 1 w v l.length (natVals l)) (hn : l.length ≤ 1000) :
    Calls Try.prog 14 #[.func (.func 36) #[] #[.pointer (some ⟨Bs, 0, none⟩)], v, .int .i64 stop] w fun e w' => e = .returned (.bool true) ∧ Below w.heap.size w w' := by
  have HV := hid (fun W (h : Below w.heap.size w W) => hv.below h (Nat.le_refl _))
  obtain ⟨a, cap, hv2⟩ := hv.len
  subst hv2
  have hlen := hv.2.1
  have HIT := hid hit
  clear hv hit
  refine (callsIn_wide (n := 5)).1 ?_
  refine callsIn_of_wp_marks Try.func14 rfl trivial ?_ rfl
  simp only [Try.ntmps14, List.size_toArray, List.length_cons, List.length_nil, Nat.reduceAdd, Nat.reduceSub, Array.replicate_succ, Array.replicate_zero, List.push_toArray, List.append_toArray, List.nil_append, List.cons_append]
  gi_wp2
  have b0 := (((Boxed.new w 39 (.slice a l.length cap)).alloc (.cells #[.int .i64 stop] 3)).alloc (.cells #[.bool false] 4)).alloc (.cells #[.int .i64 0] 3)
  have b1 := ((Boxed.new (w.alloc (.cells #[.slice a l.length cap] 39)) 3 (.int .i64 stop)).alloc (.cells #[.bool false] 4)).alloc (.cells #[.int .i64 0] 3)
  have b2 := (Boxed.new ((w.alloc (.cells #[.slice a l.length cap] 39)).alloc (.cells #[.int .i64 stop] 3)) 4 (.bool false)).alloc (.cells #[.int .i64 0] 3)
  have b3 := Boxed.new (((w.alloc (.cells #[.slice a l.length cap] 39)).alloc (.cells #[.int .i64 stop] 3)).alloc (.cells #[.bool false] 4)) 3 (.int .i64 0)
  simp only [World.size_alloc] at b0 b1 b2 b3
  have hB0 : Below w.heap.size w ((((w.alloc (.cells #[.slice a l.length cap] 39)).alloc (.cells #[.int .i64 stop] 3)).alloc (.cells #[.bool false] 4)).alloc (.cells #[.int .i64 0] 3)) := ((((Below.refl _ w).alloc (Nat.le_refl _) (.cells #[.slice a l.length cap] 39)).alloc (by simp only [World.size_alloc]; omega) (.cells #[.int .i64 stop] 3)).alloc (by simp only [World.size_alloc]; omega) (.cells #[.bool false] 4)).alloc (by simp only [World.size_alloc]; omega) (.cells #[.int .i64 0] 3)
  have hsz : ((((w.alloc (.cells #[.slice a l.length cap] 39)).alloc (.cells #[.int .i64 stop] 3)).alloc (.cells #[.bool false] 4)).alloc (.cells #[.int .i64 0] 3)).heap.size = w.heap.size + 4 := by simp only [World.size_alloc]
  obtain ⟨w3, hw3⟩ : ∃ w3, ((((w.alloc (.cells #[.slice a l.length cap] 39)).alloc (.cells #[.int .i64 stop] 3)).alloc (.cells #[.bool false] 4)).alloc (.cells #[.int .i64 0] 3)) = w3 := ⟨_, rfl⟩
  rw [hw3] at b0 b1 b2 b3 hB0 hsz ⊢
  clear hw3
  have hkX : Hid (∀ X, Kp lo w.heap.size w3 X → Kit.IsS 1 X ov l.length (natVals l) ∧ X.cell? ⟨Bs, 0, none⟩ = some ov) := fun X hX => HIT.out X ⟨Nat.le_trans hB0.size hX.1, fun k h1 h2 => (hX.2 k h1 h2).trans (hB0.block k h2)⟩
  have hB3z := hB0.size
  have hkp0 : Kp lo w.heap.size w3 w3 := Kp.refl _ _ _
  refine wpIn_rangeFunc_ownH rfl (by omega) (gf := 36) (lb := #[.pointer (some ⟨Bs, 0, none⟩)]) rfl trivial (enters_of Try.func36 (by kernel_rfl) rfl)
    (order1_stops l ov lo w.heap.size Bs (5 - 1) w3 (by omega) (by omega) hkX.out) (fun h k => Kp.trans h k) (Kp.putObj (by omega)) (Below.refl _ _) (fun _ => rfl)
    (TeJ (.slice a l.length cap) stop w3.heap.size w) (fun c' pre W => c' = .ret ∧ TeX w pre W) (TeJ.own hB0.size) (fun c' pre A B row h hg hr => ⟨h.1, TeX.own hB0.size pre A B row h.2 hg hr⟩)
    ⟨b0, b1, b2, b3, hB0, Nat.le_refl _⟩
    (fun x a' W => a' = { tmps := #[.func (.func 36) #[] #[.pointer (some ⟨Bs, 0, none⟩)], .slice a l.length cap, .int .i64 stop, undef, .pointer (some ⟨w.heap.size, 0, none⟩), .pointer (some ⟨w.heap.size + 1, 0, none⟩), .pointer (some ⟨w.heap.size + 1 + 1, 0, none⟩), .pointer (some ⟨w.heap.size + 1 + 1 + 1, 0, none⟩), .int .i64 (x.1.2 : Int), .func (.func 36) #[] #[.pointer (some ⟨Bs, 0, none⟩)], .int .i64 (x.1.2 : Int), undef, undef, undef, undef, undef, undef, undef, undef, undef, undef, undef, undef, undef, undef, undef, undef, undef, undef, undef, undef, undef], defers := [] })
    (fun x a' => Own.from (fun s A B row hs hg hr => hs) _) ?assign ?body ?done ?stop
  case assign =>
    rintro D pre ⟨⟨k, c⟩, hx⟩ W K hI hK
    unfold entE
    gi_wp2
    exact hK _ _ ((⟨Nat.le_refl _, fun _ _ h _ => h⟩ : KeepsOthers W W).from _) (Kp.refl _ _ W) hI rfl
  case body =>
    rintro D pre ⟨⟨k, c⟩, hx⟩ a' W hl ⟨r, hr⟩ ⟨i0, i1, i2, i3, hB, hh⟩ rfl hlt
    have c0 := i0.cell
    have c1 := i1.cell
    have c2 := i2.cell
    have c3 := i3.cell
    have f2 := i2.frozen
    have f3 := i3.frozen
    have HW := hid (HV.out W hB)
    have hkl : k < l.length := (List.getElem?_eq_some_iff.1 hx).1
    have hpl : IntKind.i64.wrap ((pre.length : Int) + 1) = (pre.length : Int) + 1 := IntWalk.i64_in _ (by omega)
    dsimp only
    have hhz := hB.size
    by_cases hC : l[pre.length]? = some c
    · have hlp := (List.getElem?_eq_some_iff.1 hC).1
      obtain ⟨b, o, cap', hv, -, hbb, hcs⟩ := HW.out.some (by omega)
      obtain ⟨rfl, -, rfl⟩ := Value.slice.inj hv
      have d0 := hcs pre.length _ (Kit.natVals_at hC)
      have hge : decide (l.length ≤ pre.length) = false := by simp; omega
      have hge2 : ¬ ((l.length : Int) ≤ (pre.length : Int)) := by omega
      have hge3 : (pre.length : Int) < (l.length : Int) := by omega
      clear hcs hv hC hlen
      gi_wp2
      · exact ⟨((KeepsOthers.setCell _ _ _).trans (KeepsOthers.setCell _ _ _)).from _, rfl, ⟨true, (i2.other (by omega) _).set _, fun h => by cases h⟩, (by repeat' first | with_reducible exact hB | with_reducible exact Below.refl _ _ | with_reducible refine belows_drewN ?_ _ | with_reducible refine Below.drew ?_ | with_reducible refine Below.setCell ?_ ?_ _ | omega | (simp; omega))⟩
      · have el : (.int .i64 ((pre.length : Int) + 1) : Value) = .int .i64 (((pre ++ [(⟨(k, c), hx⟩ : Tx l)]).length : Nat) : Int) := by simp
        exact ⟨(KeepsOthers.setCell _ _ _).from _, (Kp.refl lo w.heap.size W).set (by omega) (by omega) _, i0.other (by omega) _, i1.other (by omega) _, i2.other (by omega) _, by rw [← el]; exact i3.set _, (by repeat' first | with_reducible exact hB | with_reducible exact Below.refl _ _ | with_reducible refine belows_drewN ?_ _ | with_reducible refine Below.drew ?_ | with_reducible refine Below.setCell ?_ ?_ _ | omega | (simp; omega)), by simp only [World.size_setCell]; omega⟩
    · have hne : k ≠ pre.length := by rintro rfl; exact hC hx
      have HNe := hid hne
      by_cases hlp : l.length ≤ pre.length
      · have hge : decide (l.length ≤ pre.length) = true := by simpa using hlp
        have HX := hid hx
        have hge2 : ((l.length : Int) ≤ (pre.length : Int)) := by omega
        clear hC hne hlen hlp hge hlt hkl hpl HX
        gi_wp2
        exact ⟨(KeepsOthers.setCell _ _ _).from _, rfl, ⟨false, i2.set _, fun _ => ⟨pre, _, rfl, HNe.out⟩⟩, (by repeat' first | with_reducible exact hB | with_reducible exact Below.refl _ _ | with_reducible refine belows_drewN ?_ _ | with_reducible refine Below.drew ?_ | with_reducible refine Below.setCell ?_ ?_ _ | omega | (simp; omega))⟩
      · obtain ⟨y, hy⟩ : ∃ y, l[pre.length]? = some y := ⟨_, List.getElem?_eq_getElem (by omega)⟩
        have hyc : ¬ ((c : Int) = (y : Int)) := by
          intro e
          apply hC
          rw [hy]
          congr 1
          omega
        obtain ⟨b, o, cap', hv, -, hbb, hcs⟩ := HW.out.some (by omega)
        obtain ⟨rfl, -, rfl⟩ := Value.slice.inj hv
        have d0 := hcs pre.length _ (Kit.natVals_at hy)
        have hge : decide (l.length ≤ pre.length) = false := by simp; omega
        have hge2 : ¬ ((l.length : Int) ≤ (pre.length : Int)) := by omega
        have hge3 : (pre.length : Int) < (l.length : Int) := by omega
        clear hcs hv hC hlen hne hy
        gi_wp2
        exact ⟨(KeepsOthers.setCell _ _ _).from _, rfl, ⟨false, i2.set _, fun _ => ⟨pre, _, rfl, HNe.out⟩⟩, (by repeat' first | with_reducible exact hB | with_reducible exact Below.refl _ _ | with_reducible refine belows_drewN ?_ _ | with_reducible refine Below.drew ?_ | with_reducible refine Below.setCell ?_ ?_ _ | omega | (simp; omega))⟩
  case done =>
    rintro D ys W hD rfl ⟨i0, i1, i2, i3, hB, hh⟩ hK
    have c0 := i0.cell
    have c2 := i2.cell
    have c3 := i3.cell
    have f2 := i2.frozen
    rw [told_len l l.length (Nat.le_refl _)] at c3
    have hd : ((l.length : Int) == (l.length : Int)) = true := by simp
    gi_wp2
    have hK' := (KeepsOthers.setCell W ⟨w.heap.size + 1 + 1, 0, none⟩ (.bool true)).same D _ hK rfl
    refine ⟨by simp, .inl ⟨_, _, rfl, run_takeDeferred hK', ?_⟩⟩
    have hc5 := cell_kept (World.cell?_setCell_same' W ⟨w.heap.size + 1 + 1, 0, none⟩ (.bool true) (by rw [c2]; rfl)) (grownBy_putObj' _ D (.deferred none)) (fun r e => by cases e; exact ⟨_, hK', rfl⟩)
    refine ⟨.bool true, ?_, rfl, (hB.setCell (p := ⟨w.heap.size + 1 + 1, 0, none⟩) (by show w.heap.size ≤ w.heap.size + 1 + 1; omega) _).trans (belowK_b (w := w) (Nat.le_refl _) _ D _ _ (by omega) hK' rfl rfl)⟩
    simp [results, Try.f14, go_sem, hc5]
  case stop =>
    rintro D c' pre W hD ⟨k, hk, rfl⟩ ⟨rfl, hX⟩ hK
    obtain ⟨i2, hB⟩ := hX.is hk
    clear hX
    gi_wp2
    refine ⟨by simp, .inl ⟨_, _, rfl, run_takeDeferred hK, ?_⟩⟩
    have hc2 := cell_kept i2.cell (grownBy_putObj' _ D (.deferred none)) (fun r e => by cases e; exact ⟨_, hK, rfl⟩)
    refine ⟨.bool true, ?_, rfl, hB.trans (belowK_b (w := w) (Nat.le_refl _) _ D _ _ (by omega) hK rfl rfl)⟩
    simp [results, Try.f14, go_sem, hc2]
end Go.Proofs.Ythjcnlgebkaonaa
namespace Go.Proofs.Ythjcnlgebkaonaa
open Go Go.RowKit
open Kit (natVals)

/-- The document's hierarchy as it lies: names, supers. -/
structure RM (w : World) (base rb : Nat) (N : List ByteArray) (S : List Int) : Prop where
  ex : ∃ nv sv, w.heap[rb]? = some (.cells #[nv, sv] 63 (0, 0)) ∧ w.ownsRow base 9 1 nv N.length (N.map Value.string) ∧ w.ownsRow base 3 1 sv S.length (S.map (Value.int .i64))
  lb : base ≤ rb
theorem RM.lt {w : World} {base rb : Nat} {N : List ByteArray} {S : List Int} (h : RM w base rb N S) : rb < w.heap.size := by
  obtain ⟨nv, sv, h1, -⟩ := h.ex
  exact (Array.getElem?_eq_some_iff.1 h1).1
theorem RM.below {w w' : World} {base rb : Nat} {N : List ByteArray} {S : List Int} (h : RM w base rb N S) (hb : Below w.heap.size w w') : RM w' base rb N S := by
  have hlt := h.lt
  obtain ⟨nv, sv, h1, h2, h3⟩ := h.ex
  exact ⟨⟨nv, sv, (hb.block _ hlt).trans h1, Kit.owns_below h2 hb (Nat.le_refl _), Kit.owns_below h3 hb (Nat.le_refl _)⟩, h.lb⟩
/-- Its cells, in sight. -/
theorem RM.sight {w : World} {base rb : Nat} {N : List ByteArray} {S : List Int} (h : RM w base rb N S) (hN : N.length ≤ 1000) (hS : 0 < S.length) : ∃ na np sg sp, w.cell? ⟨rb, 0, none⟩ = some (.slice na N.length np) ∧ w.cell? ⟨rb, 1, none⟩ = some (.slice (some ⟨sg, 0, none⟩) S.length sp) ∧
    Kit.IsS 1 w (.slice na N.length np) N.length (N.map Value.string) ∧ sg < w.heap.size ∧ ∀ (k : Nat) (x : Int), S[k]? = some x → w.cell? ⟨sg, k, none⟩ = some (.int .i64 x) := by
  obtain ⟨nv, sv, h1, h2, h3⟩ := h.ex
  have hI := Kit.isS_of_owns h2 (by omega)
  obtain ⟨na, np, rfl⟩ := hI.len
  rcases h3.2 with ⟨-, e⟩ | ⟨g, cap, cur, rfl, hg, hh, c1, c2, c3, ht⟩
  · omega
  · refine ⟨na, np, g, cap, by simp [World.cell?, h1], by simp [World.cell?, h1], hI, (Array.getElem?_eq_some_iff.1 hh).1, fun k x hk => ?_⟩
    have hkl := (List.getElem?_eq_some_iff.1 hk).1
    have : cur[k]? = some (.int .i64 x) := by
      have e : (S.map (Value.int .i64))[k]? = some (.int .i64 x) := by simp [hk]
      rw [← ht, List.getElem?_take_of_lt (by omega)] at e
      simpa using e
    simp [World.cell?, hh, this]
theorem str_ne {a b : ByteArray} (h : ¬ a = b) : (a.toList == b.toList) = false := by
  rw [beq_eq_false_iff_ne, ne_eq, ByteArray.toList_eq, ByteArray.toList_eq]
  exact fun e => h (ba_eq e)
def idxI (s : ByteArray) (N : List ByteArray) : Int := match Hi.idx s N with | some k => (k : Int) | none => -1
theorem strs_at {w : World} {v : Value} {N : List ByteArray} (h : Kit.IsS 1 w v N.length (N.map Value.string)) {k : Nat} {s : ByteArray} (hk : N[k]? = some s) : ∃ b o cap, v = .slice (some ⟨b, o, none⟩) N.length cap ∧ b < w.heap.size ∧ w.cell? ⟨b, o + k, none⟩ = some (.string s) := by
  obtain ⟨b, o, cap, h1, -, h3, h4⟩ := h.some (by have := (List.getElem?_eq_some_iff.1 hk).1; omega)
  exact ⟨b, o, cap, h1, h3, h4 k _ (by simp [hk])⟩
theorem idx_here {s : ByteArray} {N : List ByteArray} {k : Nat} (h : N[k]? = some s) (hn : ∀ j, j < k → N[j]? ≠ some s) : idxI s N = (k : Int) := by
  unfold idxI
  cases hx : Hi.idx s N with
  | none => exact absurd (List.mem_of_getElem? h) (Hi.idx_none.1 hx)
  | some j =>
    have hj := Hi.idx_some hx
    have h1 : ¬ j < k := fun e => hn j e hj
    by_cases e : k < j
    · exfalso
      have : ∀ (N : List ByteArray) (j k : Nat), Hi.idx s N = some j → N[k]? = some s → ¬ k < j := by
        intro N
        induction N with
        | nil => intro j k h; simp [Hi.idx] at h
        | cons x xs ih =>
          intro j k h hk hlt
          have e1 : Hi.idx s (x :: xs) = if x = s then some 0 else (Hi.idx s xs).map (· + 1) := rfl
          rw [e1] at h
          by_cases ex : x = s
          · rw [if_pos ex] at h; cases h; omega
          · rw [if_neg ex] at h
            cases hx2 : Hi.idx s xs with
            | none => rw [hx2] at h; simp at h
            | some i =>
              rw [hx2] at h
              simp only [Option.map_some, Option.some.injEq] at h
              subst h
              cases k with
              | zero => simp at hk; exact ex hk
              | succ k => exact ih i k hx2 (by simpa using hk) (by omega)
      exact this N j k hx h e
    · have : j = k := by omega
      simp [this]
theorem idx_not {s : ByteArray} {N : List ByteArray} (hn : ∀ j, j < N.length → N[j]? ≠ some s) : idxI s N = -1 := by
  unfold idxI
  cases hx : Hi.idx s N with
  | none => rfl
  | some j => exact absurd (Hi.idx_some hx) (hn j (Hi.idx_lt hx))
set_option maxRecDepth 100000 in
theorem find_any {w : World} {v : Value} {N : List ByteArray} (hv : Kit.IsS 1 w v N.length (N.map Value.string)) (s : ByteArray) :
    Calls Try.prog 32 #[v, .string s] w fun e w' => e = .returned (.int .i64 (idxI s N)) ∧ w = w' := by
  have hlen := hv.2.1
  have HV := hid hv
  obtain ⟨a, cap, rfl⟩ := hv.len
  clear hv
  go_enter Try.func32, Try.ntmps32
  go_wp2
  go_loop [5] (fun i => ∃ k : Nat, i = .int .i64 (k : Int) ∧ k ≤ N.length ∧ Hid (∀ j, j < k → N[j]? ≠ some s)) (fun i => N.length - (intOf i).toNat)
  case atStart => exact ⟨0, rfl, by omega, fun j h => by omega⟩
  case round =>
    obtain ⟨k, rfl, hk, HN⟩ := hrel
    by_cases hlt : k < N.length
    · obtain ⟨x, hx⟩ : ∃ x, N[k]? = some x := ⟨_, List.getElem?_eq_getElem hlt⟩
      obtain ⟨b, o, c, hsl, hbl, y0⟩ := strs_at HV.out hx
      obtain ⟨rfl, -, rfl⟩ := Value.slice.inj hsl
      have HX := hid hx
      clear hsl hx
      by_cases e : x = s
      · subst e
        have hres := hid (idx_here HX.out HN.out)
        go_wp2
        go_ret
        exact ⟨by rw [hres.out]; rfl, rfl⟩
      · have e2 := str_ne e
        go_wp2
        go_round
        case rel => exact ⟨k + 1, by go_num, by omega, fun j hj => by
          by_cases ej : j = k
          · subst ej; rw [HX.out]; simpa using e
          · exact HN.out j (by omega)⟩
        case measure => simp [intOf]; omega
    · obtain rfl : k = N.length := by omega
      have hres := hid (idx_not HN.out)
      go_wp2
      go_ret
      exact ⟨by rw [hres.out]; rfl, rfl⟩
end Go.Proofs.Ythjcnlgebkaonaa
namespace Go.Proofs.Ythjcnlgebkaonaa
open Go Go.RowKit
open Kit (natVals)

/-- A hierarchy that the document makes. -/
structure ROk (n : Nat) (P D : Nat → Nat) (N : List ByteArray) (S : List Int) : Prop where
  tr : Hi.Tr n P D
  le : n ≤ 72
  nl : N.length = n
  sl : S.length = n
  su : ∀ k, k < n → S[k]? = some (if k = 0 then -1 else (P k : Int))
def mzr (D : Nat → Nat) (j : Int) : Nat := if j < 0 then 0 else D j.toNat + 1
theorem mzr_nat (D : Nat → Nat) (m : Nat) : mzr D (m : Int) = D m + 1 := by unfold mzr; rw [if_neg (by omega), Int.toNat_natCast]
section
variable {w : World} {base rb n : Nat} {P D : Nat → Nat} {N : List ByteArray} {S : List Int}
set_option maxRecDepth 100000
theorem ris_any (h : RM w base rb N S) (ok : ROk n P D N S) (k : Int) : Calls Try.prog 35 #[.pointer (some ⟨rb, 0, none⟩), .int .i64 k] w fun e w' => e = .returned (.bool (isC n k)) ∧ w = w' := by
  obtain ⟨na, np, sg, sp, k0, -, -, -, -⟩ := h.sight (by rw [ok.nl]; have := ok.le; omega) (by rw [ok.sl]; exact ok.tr.pos)
  rw [ok.nl] at k0
  unfold isC
  clear h ok
  by_cases hn : 0 ≤ k
  · have d : decide (0 ≤ k) = true := by simpa using hn
    rw [d]
    go_enter Try.func35, Try.ntmps35
    go_wp2
    go_ret
    exact ⟨by simp, rfl⟩
  · have d : decide (0 ≤ k) = false := by simpa using hn
    rw [d]
    go_enter Try.func35, Try.ntmps35
    go_wp2
    go_ret
    exact ⟨by simp, rfl⟩
def nameR (N : List ByteArray) (n : Nat) (k : Int) : ByteArray := if isC n k = true then (N[k.toNat]?).getD ⟨#[]⟩ else ⟨#[]⟩
theorem rName_any (h : RM w base rb N S) (ok : ROk n P D N S) (k : Int) : Calls Try.prog 24 #[.pointer (some ⟨rb, 0, none⟩), .int .i64 k] w fun e w' => e = .returned (.string (nameR N n k)) ∧ w = w' := by
  have HH := ris_any h ok k
  obtain ⟨na, np, sg, sp, k0, -, hI, -, -⟩ := h.sight (by rw [ok.nl]; have := ok.le; omega) (by rw [ok.sl]; exact ok.tr.pos)
  unfold nameR
  cases hi : isC n k with
  | false =>
    rw [hi] at HH
    clear h ok k0 hi hI
    go_enter Try.func24, Try.ntmps24
    go_wp2_with (go_at_call 35; refine HH.mono ?_; rintro e w' ⟨rfl, rfl⟩)
    go_ret
    exact ⟨by simp, rfl⟩
  | true =>
    rw [hi] at HH
    obtain ⟨j, rfl, hj⟩ := isC_yes hi
    obtain ⟨x, hx⟩ : ∃ x, N[j]? = some x := ⟨_, List.getElem?_eq_getElem (by rw [ok.nl]; exact hj)⟩
    obtain ⟨b, o, c, hsl, hbl, y0⟩ := strs_at hI hx
    obtain ⟨rfl, -, rfl⟩ := Value.slice.inj hsl
    rw [Int.toNat_natCast, hx]
    have hjn : j < N.length := by rw [ok.nl]; exact hj
    clear h ok hi hI hsl hx hj
    go_enter Try.func24, Try.ntmps24
    go_wp2_with (go_at_call 35; refine HH.mono ?_; rintro e w' ⟨rfl, rfl⟩)
    go_ret
    exact ⟨by simp, rfl⟩
theorem rDepth_any (h : RM w base rb N S) (ok : ROk n P D N S) (k : Nat) (hk : k < n) : Calls Try.prog 37 #[.pointer (some ⟨rb, 0, none⟩), .int .i64 (k : Int)] w fun e w' => e = .returned (.int .i64 (D k : Int)) ∧ w = w' := by
  have HH := hid (fun j => ris_any h ok j)
  obtain ⟨na, np, sg, sp, k0, k1, -, hsg, hs⟩ := h.sight (by rw [ok.nl]; have := ok.le; omega) (by rw [ok.sl]; exact ok.tr.pos)
  have OK := hid ok
  have HS := hid hs
  have hlen := ok.sl
  have h72 := ok.le
  have hDk := ok.tr.lt hk
  have HK := hid hk
  clear h ok hs
  go_enter Try.func37, Try.ntmps37
  go_wp2
  go_loop [5, 6] (fun d v => ∃ (x j : Int), d = .int .i64 x ∧ v = .int .i64 j ∧ Hid ((j = -1 ∧ x = (D k : Int)) ∨ (∃ m : Nat, j = (m : Int) ∧ m < n ∧ x + 1 + (D m : Int) = (D k : Int) ∧ -1 ≤ x))) (fun _ v => mzr D (intOf v))
  case atStart => exact ⟨-1, k, rfl, rfl, .inr ⟨k, rfl, HK.out, by omega, by omega⟩⟩
  case round =>
    obtain ⟨x, j, rfl, rfl, HR⟩ := hrel
    rcases HR.out with ⟨rfl, rfl⟩ | ⟨m, rfl, hm, hx, hx0⟩
    · have HF := HH.out (-1)
      rw [show isC n (-1) = false by simp [isC]] at HF
      go_wp2_with (go_at_call 35; refine HF.mono ?_; rintro e w' ⟨rfl, rfl⟩)
      go_ret
      exact ⟨rfl, rfl⟩
    · have HF := HH.out (m : Int)
      rw [isC_nat hm] at HF
      have hm2 := OK.out.su m hm
      have hml : m < S.length := by rw [hlen]; exact hm
      by_cases hm0 : m = 0
      · subst hm0
        have y1 := HS.out 0 _ hm2
        rw [if_pos rfl] at y1
        have hD0 := OK.out.tr.zero
        rw [hD0] at hx
        have HX := hid hx
        have hDk2 : D k ≤ 72 := by omega
        have hxb : x ≤ 72 := by omega
        clear hx HR hm2 hD0
        go_wp2_with (go_at_call 35; refine HF.mono ?_; rintro e w' ⟨rfl, rfl⟩)
        go_round
        case rel => exact ⟨x + 1, -1, rfl, rfl, .inl ⟨rfl, by have := HX.out; omega⟩⟩
        case measure => show mzr D (-1) < mzr D ((0 : Nat) : Int); rw [mzr_nat]; simp [mzr]
      · have y1 := HS.out m _ hm2
        rw [if_neg hm0] at y1
        have hp := OK.out.tr.up m (by omega) hm
        have hd := OK.out.tr.dep m (by omega) hm
        have HX := hid hx
        have HP := hid hp
        have HD := hid hd
        have hxb : x ≤ 72 := by omega
        clear hx HR hm2 hp hd
        obtain ⟨q, hq⟩ : ∃ q, P m = q := ⟨_, rfl⟩
        rw [hq] at y1 HP HD
        clear hq
        go_wp2_with (go_at_call 35; refine HF.mono ?_; rintro e w' ⟨rfl, rfl⟩)
        go_round
        case rel => exact ⟨x + 1, q, rfl, rfl, .inr ⟨q, rfl, HP.out, by have := HX.out; have := HD.out; omega, by omega⟩⟩
        case measure => have := HD.out; show mzr D ((q : Nat) : Int) < mzr D ((m : Nat) : Int); rw [mzr_nat, mzr_nat]; omega
/-- Of a class, what stands on the way up. -/
theorem rUnder_any (h : RM w base rb N S) (ok : ROk n P D N S) (a b : Int) : Calls Try.prog 11 #[.pointer (some ⟨rb, 0, none⟩), .int .i64 a, .int .i64 b] w fun e w' => e = .returned (.bool (isC n a && isC n b && Hi.und P D a.toNat b.toNat)) ∧ w = w' := by
  have HA := ris_any h ok a
  have HB := ris_any h ok b
  obtain ⟨na, np, sg, sp, k0, k1, -, hsg, hs⟩ := h.sight (by rw [ok.nl]; have := ok.le; omega) (by rw [ok.sl]; exact ok.tr.pos)
  cases hi : isC n a with
  | false =>
    rw [hi] at HA
    clear h k0 k1 hi HB hs ok
    go_enter Try.func11, Try.ntmps11
    go_wp2_with (go_at_call 35; refine HA.mono ?_; rintro e w' ⟨rfl, rfl⟩)
    go_ret
    exact ⟨by simp, rfl⟩
  | true =>
    rw [hi] at HA
    obtain ⟨i, rfl, hin⟩ := isC_yes hi
    cases hj : isC n b with
    | false =>
      rw [hj] at HB
      clear h k0 k1 hi hj hs ok
      go_enter Try.func11, Try.ntmps11
      go_wp2_with (first | (go_at_call 35; (with_reducible refine HA.mono ?_); rintro e w' ⟨rfl, rfl⟩) | (go_at_call 35; (with_reducible refine HB.mono ?_); rintro e w' ⟨rfl, rfl⟩))
      go_ret
      exact ⟨by simp, rfl⟩
    | true =>
      rw [hj] at HB
      obtain ⟨j, rfl, hjn⟩ := isC_yes hj
      rw [Bool.true_and, Bool.true_and, Int.toNat_natCast, Int.toNat_natCast]
      have OK := hid ok
      have HS := hid hs
      have hlen := ok.sl
      have HI := hid hin
      have HJ := hid hjn
      clear h hi hj hs ok hin hjn
      go_enter Try.func11, Try.ntmps11
      go_wp2_with (first | (go_at_call 35; (with_reducible refine HA.mono ?_); rintro e w' ⟨rfl, rfl⟩) | (go_at_call 35; (with_reducible refine HB.mono ?_); rintro e w' ⟨rfl, rfl⟩))
      go_loop [7] (fun v => ∃ x : Int, v = .int .i64 x ∧ Hid ((x = -1 ∧ Hi.und P D i j = false) ∨ (∃ m : Nat, x = (m : Int) ∧ m < n ∧ Hi.und P D m j = Hi.und P D i j))) (fun v => mzr D (intOf v))
      case atStart => exact ⟨i, rfl, .inr ⟨i, rfl, HI.out, rfl⟩⟩
      case round =>
        obtain ⟨x, rfl, HR⟩ := hrel
        rcases HR.out with ⟨rfl, hu⟩ | ⟨m, rfl, hm, hu⟩
        · have HU := hid hu
          clear HA HB hu HR
          go_wp2
          go_ret
          exact ⟨by rw [HU.out]; rfl, rfl⟩
        · have hm2 := OK.out.su m hm
          have hml : m < S.length := by rw [hlen]; exact hm
          by_cases hmj : m = j
          · subst hmj
            rw [Hi.und_refl] at hu
            have HU := hid hu.symm
            clear HA HB hu HR
            go_wp2
            go_ret
            exact ⟨by rw [HU.out]; rfl, rfl⟩
          · have hmji : ¬ ((m : Int) = (j : Int)) := by omega
            by_cases hm0 : m = 0
            · subst hm0
              have y1 := HS.out 0 _ hm2
              rw [if_pos rfl] at y1
              rw [OK.out.tr.und_root, decide_eq_false hmj] at hu
              have HU := hid hu.symm
              clear hu HR hm2 HA HB
              go_wp2
              go_round
              case rel => exact ⟨-1, rfl, .inl ⟨rfl, HU.out⟩⟩
              case measure => show mzr D (-1) < mzr D ((0 : Nat) : Int); rw [mzr_nat]; simp [mzr]
            · have y1 := HS.out m _ hm2
              rw [if_neg hm0] at y1
              have hp := OK.out.tr.up m (by omega) hm
              have hd := OK.out.tr.dep m (by omega) hm
              rw [OK.out.tr.und_step hm (by omega), decide_eq_false hmj, Bool.false_or] at hu
              have HU := hid hu
              have HP := hid hp
              have HD := hid hd
              clear hu HR hm2 hp hd HA HB
              obtain ⟨q, hq⟩ : ∃ q, P m = q := ⟨_, rfl⟩
              rw [hq] at y1 HP HD HU
              clear hq
              go_wp2
              go_round
              case rel => exact ⟨q, rfl, .inr ⟨q, rfl, HP.out, HU.out⟩⟩
              case measure => have := HD.out; show mzr D ((q : Nat) : Int) < mzr D ((m : Nat) : Int); rw [mzr_nat, mzr_nat]; omega
end
end Go.Proofs.Ythjcnlgebkaonaa
namespace Go.Proofs.Ythjcnlgebkaonaa
open Go Go.RowKit
open Kit (natVals)

section
variable {w : World} {base rb n : Nat} {P D : Nat → Nat} {N : List ByteArray} {S : List Int}
set_option maxRecDepth 100000
theorem rCommon_any (h : RM w base rb N S) (ok : ROk n P D N S) (a b : Int) : Calls Try.prog 13 #[.pointer (some ⟨rb, 0, none⟩), .int .i64 a, .int .i64 b] w fun e w' =>
    e = .returned (.int .i64 (if (isC n a && isC n b) = true then ((Hi.cm P D a.toNat b.toNat : Nat) : Int) else -1)) ∧ w = w' := by
  have HA := ris_any h ok a
  have HB := ris_any h ok b
  obtain ⟨na, np, sg, sp, k0, k1, -, hsg, hs⟩ := h.sight (by rw [ok.nl]; have := ok.le; omega) (by rw [ok.sl]; exact ok.tr.pos)
  cases hi : isC n a with
  | false =>
    rw [hi] at HA
    clear h k0 k1 hi HB hs ok
    go_enter Try.func13, Try.ntmps13
    go_wp2_with (go_at_call 35; refine HA.mono ?_; rintro e w' ⟨rfl, rfl⟩)
    go_ret
    exact ⟨by simp, rfl⟩
  | true =>
    rw [hi] at HA
    obtain ⟨i, rfl, hin⟩ := isC_yes hi
    cases hj : isC n b with
    | false =>
      rw [hj] at HB
      clear h k0 k1 hi hj hs ok
      go_enter Try.func13, Try.ntmps13
      go_wp2_with (first | (go_at_call 35; (with_reducible refine HA.mono ?_); rintro e w' ⟨rfl, rfl⟩) | (go_at_call 35; (with_reducible refine HB.mono ?_); rintro e w' ⟨rfl, rfl⟩))
      go_ret
      exact ⟨by simp, rfl⟩
    | true =>
      rw [hj] at HB
      obtain ⟨j, rfl, hjn⟩ := isC_yes hj
      rw [Bool.true_and, if_pos rfl, Int.toNat_natCast, Int.toNat_natCast]
      have HU := hid (fun (m : Nat) (hm : m < n) => show Calls _ _ _ _ (fun e w' => e = .returned (.bool (Hi.und P D j m)) ∧ w = w') by
        have := rUnder_any h ok (j : Int) (m : Int)
        rwa [isC_nat hjn, isC_nat hm, Bool.true_and, Bool.true_and, Int.toNat_natCast, Int.toNat_natCast] at this)
      have OK := hid ok
      have HS := hid hs
      have hlen := ok.sl
      have HI := hid hin
      have HJ := hid hjn
      obtain ⟨c, hc⟩ : ∃ c, Hi.cm P D i j = c := ⟨_, rfl⟩
      have HC := hid hc
      rw [hc]
      have hcok := ok.tr.cm_ok hin hjn
      rw [hc] at hcok
      have HCo := hid hcok
      clear h hi hj hs ok hin hjn hc hcok
      go_enter Try.func13, Try.ntmps13
      go_wp2_with (first | (go_at_call 35; (with_reducible refine HA.mono ?_); rintro e w' ⟨rfl, rfl⟩) | (go_at_call 35; (with_reducible refine HB.mono ?_); rintro e w' ⟨rfl, rfl⟩))
      clear HA HB
      go_loop [7] (fun v => ∃ m : Nat, v = .int .i64 (m : Int) ∧ m < n ∧ Hid (Hi.und P D i m = true ∧ Hi.und P D m c = true)) (fun v => D (intOf v).toNat)
      case atStart => exact ⟨i, rfl, HI.out, Hi.und_refl _ _ _, HCo.out.1⟩
      case round =>
        obtain ⟨m, rfl, hm, HR⟩ := hrel
        have HF := HU.out m hm
        by_cases hu : Hi.und P D j m = true
        · rw [hu] at HF
          have hmc := OK.out.tr.cm_eq HI.out HJ.out hm HR.out.1 hu (by rw [HC.out]; exact HR.out.2)
          rw [HC.out] at hmc
          have HM := hid hmc
          clear hmc hu
          go_wp2_with (go_at_call 11; refine HF.mono ?_; rintro e w' ⟨rfl, rfl⟩)
          go_ret
          exact ⟨by rw [← HM.out]; rfl, rfl⟩
        · have hu2 : Hi.und P D j m = false := by simpa using hu
          rw [hu2] at HF
          have hm0 : m ≠ 0 := by rintro rfl; exact hu (OK.out.tr.und_zero HJ.out)
          have hm2 := OK.out.su m hm
          have hml : m < S.length := by rw [hlen]; exact hm
          have y1 := HS.out m _ hm2
          rw [if_neg hm0] at y1
          have hp := OK.out.tr.up m (by omega) hm
          have hd := OK.out.tr.dep m (by omega) hm
          have hst := OK.out.tr.und_step (b := c) hm (by omega)
          have hmc : ¬ m = c := by rintro rfl; exact hu HCo.out.2.1
          rw [HR.out.2, decide_eq_false hmc, Bool.false_or] at hst
          have h1 : Hi.und P D i (P m) = true := OK.out.tr.und_trans HI.out HR.out.1 (by rw [OK.out.tr.und_step hm (by omega), Hi.und_refl, Bool.or_true])
          have HP := hid hp
          have HD := hid hd
          have H1 := hid h1
          have H2 := hid hst.symm
          clear hp hd hst h1 hu hu2 hm2 HR hmc
          obtain ⟨q, hq⟩ : ∃ q, P m = q := ⟨_, rfl⟩
          rw [hq] at y1 HP HD H1 H2
          clear hq
          go_wp2_with (go_at_call 11; refine HF.mono ?_; rintro e w' ⟨rfl, rfl⟩)
          go_round
          case rel => exact ⟨q, rfl, HP.out, H1.out, H2.out⟩
          case measure => have := HD.out; simp [intOf]; omega
/-- The first j of a class's. -/
def subP (n : Nat) (P : Nat → Nat) (k : Int) (j : Nat) : List Nat := if isC n k = true then Hi.ch j P k.toNat else []
theorem subP_zero (n : Nat) (P : Nat → Nat) (k : Int) : subP n P k 0 = [] := by unfold subP; cases isC n k <;> rfl
theorem subP_snoc (ok : ROk n P D N S) (k : Int) (j : Nat) (hj : j < n) : subP n P k (j + 1) = (if (S[j]? = some k ∧ 0 ≤ k) then subP n P k j ++ [j] else subP n P k j) := by
  have hs := ok.su j hj
  unfold subP
  cases hi : isC n k with
  | false =>
    have hno : ¬ (S[j]? = some k ∧ 0 ≤ k) := by
      rintro ⟨h1, h2⟩
      rw [hs] at h1
      have hk : k < (n : Int) := by
        by_cases h0 : j = 0
        · rw [if_pos h0, Option.some.injEq] at h1; omega
        · rw [if_neg h0, Option.some.injEq] at h1
          have := ok.tr.up j (by omega) hj
          omega
      unfold isC at hi
      simp at hi
      have := hi h2
      omega
    rw [if_neg hno]
    simp
  | true =>
    obtain ⟨i, rfl, hin⟩ := isC_yes hi
    rw [if_pos rfl, if_pos rfl, Int.toNat_natCast, Hi.ch_snoc, hs]
    by_cases h0 : j = 0
    · subst h0
      rw [if_neg (by omega), if_neg (by simp)]
    · rw [if_neg h0]
      by_cases e : P j = i
      · rw [if_pos ⟨by omega, e⟩, if_pos ⟨by rw [e], by omega⟩]
      · rw [if_neg (fun k => e k.2), if_neg (by simp; omega)]
theorem rSubs_any (h : RM w base rb N S) (ok : ROk n P D N S) (k : Int) : Calls Try.prog 26 #[.pointer (some ⟨rb, 0, none⟩), .int .i64 k] w (ClonePost 3 1 (subP n P k n).length (natVals (subP n P k n)) w) := by
  obtain ⟨i0, hi, hz0, hz1, hz2⟩ := info_parts infoI
  obtain ⟨na, np, sg, sp, k0, k1, -, hsg, hs⟩ := h.sight (by rw [ok.nl]; have := ok.le; omega) (by rw [ok.sl]; exact ok.tr.pos)
  have hlt := h.lt
  have OK := hid ok
  have HS := hid hs
  have hlen := ok.sl
  have h72 := ok.le
  clear h ok hs
  rw [hlen] at k1
  go_enter Try.func26, Try.ntmps26
  go_wp2
  go_loopw [5, 6] (fun q v wr => ∃ j : Nat, v = .int .i64 (j : Int) ∧ j ≤ n ∧ Hid (wr.ownsRow w.heap.size 3 1 q (subP n P k j).length (natVals (subP n P k j))) ∧ Hid (Below w.heap.size w wr)) (fun _ v _ => n - (intOf v).toNat)
  case atStart => exact ⟨0, rfl, by omega, (by rw [subP_zero]; exact ⟨rfl, .inl ⟨rfl, rfl⟩⟩), Below.refl _ _⟩
  case round =>
    obtain ⟨j, rfl, hj, HO, HB⟩ := hrel
    have c0 := (HB.out.cell (p := ⟨rb, 1, none⟩) hlt).trans k1
    obtain ⟨qa, qc, rfl⟩ := own_form HO.out
    have hbz := HB.out.size
    by_cases hjn : j < n
    · obtain ⟨x, hx⟩ : ∃ x, S[j]? = some x := ⟨_, List.getElem?_eq_getElem (by omega)⟩
      have c1 := (HB.out.cell (p := ⟨sg, j, none⟩) hsg).trans (HS.out j x hx)
      have hsn := subP_snoc OK.out k j hjn
      rw [hx] at hsn
      by_cases hxk : x = k
      · subst hxk
        by_cases h0 : 0 ≤ x
        · have d : decide (0 ≤ x) = true := by simpa using h0
          rw [if_pos ⟨rfl, h0⟩] at hsn
          have HSn := hid hsn
          have hlj : (subP n P x j).length ≤ n := by unfold subP; split; exact Nat.le_trans (Hi.ch_len j P _) hj; simp
          clear hsn hx
          go_wp2_with (at_builtin; refine wpList_append_own_at _ rfl (.tmp 29) (.tmp 31) 39 rfl w.heap.size 3 i0 _ 1 8 Try.underlying39 hi hz0 hz1 hz2 rfl (by decide) _ (subP n P x j).length (natVals (subP n P x j)) rfl (HO.out.alloc _) ⟨wr.heap.size, 0, none⟩ 1 1 [.int .i64 (j : Int)] rfl rfl (Kit.news_one _ _ _) (Kit.ones_one rfl) (by unfold maxLen; omega) (by omega) (by simp only [World.size_alloc]; omega) ?_; intro v1 w1 ho1 hg1 _ hk1)
          have hb1 : Below w.heap.size w w1 := Kit.below_grown (HB.out.alloc hbz _) hg1 (by simp only [World.size_alloc]; omega) (Kit.own_base HO.out)
          have HO1 := hid (show w1.ownsRow w.heap.size 3 1 v1 (subP n P x (j + 1)).length (natVals (subP n P x (j + 1))) by rw [HSn.out, List.length_append, Kit.natVals_snoc]; exact ho1)
          clear ho1 hg1 hk1
          go_wp2
          go_roundw
          case rel => exact ⟨j + 1, by go_num, by omega, HO1, hb1⟩
          case measure => simp [intOf]; omega
        · have d : decide (0 ≤ x) = false := by simpa using h0
          rw [if_neg (fun e => h0 e.2)] at hsn
          have HO1 := hid (show wr.ownsRow w.heap.size 3 1 (.slice qa (subP n P x j).length qc) (subP n P x (j + 1)).length (natVals (subP n P x (j + 1))) by rw [hsn]; exact HO.out)
          clear hsn hx
          go_wp2
          go_roundw
          case rel => exact ⟨j + 1, by go_num, by omega, HO1, HB⟩
          case measure => simp [intOf]; omega
      · rw [if_neg (fun e => hxk (by simpa using e.1))] at hsn
        have HO1 := hid (show wr.ownsRow w.heap.size 3 1 (.slice qa (subP n P k j).length qc) (subP n P k (j + 1)).length (natVals (subP n P k (j + 1))) by rw [hsn]; exact HO.out)
        clear hsn hx
        go_wp2
        go_roundw
        case rel => exact ⟨j + 1, by go_num, by omega, HO1, HB⟩
        case measure => simp [intOf]; omega
    · obtain rfl : j = n := by omega
      go_wp2
      go_ret
      exact ⟨_, rfl, HO.out, HB.out⟩
end
end Go.Proofs.Ythjcnlgebkaonaa
namespace Go.Proofs.Ythjcnlgebkaonaa
open Go Go.RowKit
open Kit (natVals)

section
variable {w : World} {base rb n : Nat} {P D : Nat → Nat} {N : List ByteArray} {S : List Int}
/-- The order so far: all depths below d, and of depth d the first j. -/
def ordP (n : Nat) (D : Nat → Nat) (d j : Nat) : List Nat := ((List.range d).flatMap fun e => (List.range n).filter fun i => decide (D i = e)) ++ (List.range j).filter fun i => decide (D i = d)
theorem ordP_next (n : Nat) (D : Nat → Nat) (d : Nat) : ordP n D d n = ordP n D (d + 1) 0 := by
  unfold ordP
  rw [List.range_succ, List.flatMap_append]
  simp
theorem ordP_all (n : Nat) (D : Nat → Nat) : ordP n D (n + 1) 0 = Hi.ordL n D := by
  unfold ordP Hi.ordL
  simp
theorem ordP_snoc (n : Nat) (D : Nat → Nat) (d j : Nat) : ordP n D d (j + 1) = if D j = d then ordP n D d j ++ [j] else ordP n D d j := by
  unfold ordP
  rw [List.range_succ, List.filter_append]
  by_cases h : D j = d
  · rw [if_pos h, List.filter_cons_of_pos (by simp [h]), List.append_assoc]; rfl
  · rw [if_neg h, List.filter_cons_of_neg (by simp [h])]; simp
theorem ordP_len {n : Nat} {D : Nat → Nat} {d j : Nat} (hj : j ≤ n) : (ordP n D d j).length ≤ n := by
  have hnd : (ordP n D d j).Pairwise (Hi.lex D) := by
    unfold ordP
    rw [List.pairwise_append]
    refine ⟨?_, ?_, ?_⟩
    · rw [List.pairwise_flatMap]
      refine ⟨fun e _ => ?_, ?_⟩
      · refine (List.pairwise_lt_range.filter _).imp_of_mem fun {a b} ha hb hab => ?_
        have h1 := (List.mem_filter.1 ha).2
        have h2 := (List.mem_filter.1 hb).2
        rw [decide_eq_true_iff] at h1 h2
        exact .inr ⟨h1.trans h2.symm, hab⟩
      · refine List.pairwise_lt_range.imp fun {a b} hab x hx y hy => ?_
        have h1 := (List.mem_filter.1 hx).2
        have h2 := (List.mem_filter.1 hy).2
        rw [decide_eq_true_iff] at h1 h2
        exact .inl (by omega)
    · refine (List.pairwise_lt_range.filter _).imp_of_mem fun {a b} ha hb hab => ?_
      have h1 := (List.mem_filter.1 ha).2
      have h2 := (List.mem_filter.1 hb).2
      rw [decide_eq_true_iff] at h1 h2
      exact .inr ⟨h1.trans h2.symm, hab⟩
    · intro a ha b hb
      obtain ⟨e, he, ha⟩ := List.mem_flatMap.1 ha
      have h1 := (List.mem_filter.1 ha).2
      have h2 := (List.mem_filter.1 hb).2
      rw [decide_eq_true_iff] at h1 h2
      have := List.mem_range.1 he
      exact .inl (by omega)
  have hn : (ordP n D d j).Nodup := hnd.imp fun {a b} (hab : Hi.lex D a b) (e : a = b) => Hi.lex_irrefl D a (by rw [← e] at hab; exact hab)
  refine Hi.len_le n _ hn fun x hx => ?_
  unfold ordP at hx
  rcases List.mem_append.1 hx with hx | hx
  · obtain ⟨e, -, hx⟩ := List.mem_flatMap.1 hx
    exact List.mem_range.1 (List.mem_filter.1 hx).1
  · have := List.mem_range.1 (List.mem_filter.1 hx).1
    omega
set_option maxRecDepth 100000 in
set_option maxHeartbeats 1000000 in
theorem rOrder_any (h : RM w base rb N S) (ok : ROk n P D N S) : Calls Try.prog 16 #[.pointer (some ⟨rb, 0, none⟩)] w (ClonePost 3 1 (Hi.ordL n D).length (natVals (Hi.ordL n D)) w) := by
  obtain ⟨i0, hi, hz0, hz1, hz2⟩ := info_parts infoI
  obtain ⟨na, np, sg, sp, k0, k1, -, hsg, hs⟩ := h.sight (by rw [ok.nl]; have := ok.le; omega) (by rw [ok.sl]; exact ok.tr.pos)
  have hlt := h.lt
  have HD := hid (fun X (b : Below w.heap.size w X) (j : Nat) (hj : j < n) => rDepth_any (h.below b) ok j hj)
  have OK := hid ok
  have h72 := ok.le
  rw [ok.nl] at k0
  clear h ok hs k1
  go_enter Try.func16, Try.ntmps16
  go_wp2
  go_loopw [3, 4] (fun q v wr => ∃ d : Nat, v = .int .i64 (d : Int) ∧ d ≤ n + 1 ∧ Hid (wr.ownsRow w.heap.size 3 1 q (ordP n D d 0).length (natVals (ordP n D d 0))) ∧ Hid (Below w.heap.size w wr)) (fun _ v _ => n + 1 - (intOf v).toNat)
  case atStart => exact ⟨0, rfl, by omega, ⟨rfl, .inl ⟨rfl, rfl⟩⟩, Below.refl _ _⟩
  case round =>
    obtain ⟨d, rfl, hd, HO, HB⟩ := hrel
    have c0 := (HB.out.cell (p := ⟨rb, 0, none⟩) hlt).trans k0
    by_cases hdn : d ≤ n
    · go_wp2
      clear c0
      have HO0 := HO
      have HB0 := HB
      obtain ⟨wo, hwo⟩ : ∃ wo, wo = wr := ⟨_, rfl⟩
      rw [← hwo] at HO0 HB0 ⊢
      clear HO HB hwo
      go_loopw [3, 5] (fun q v wr => ∃ j : Nat, v = .int .i64 (j : Int) ∧ j ≤ n ∧ Hid (wr.ownsRow w.heap.size 3 1 q (ordP n D d j).length (natVals (ordP n D d j))) ∧ Hid (Below w.heap.size w wr)) (fun _ v _ => n - (intOf v).toNat)
      case atStart => exact ⟨0, rfl, by omega, HO0, HB0⟩
      case round =>
        clear HO0 HB0
        obtain ⟨j, rfl, hj, HO, HB⟩ := hrel
        have c0 := (HB.out.cell (p := ⟨rb, 0, none⟩) hlt).trans k0
        have hbz := HB.out.size
        by_cases hjn : j < n
        · have HF := HD.out wr HB.out j hjn
          have hsn := ordP_snoc n D d j
          obtain ⟨x, hx⟩ : ∃ x, D j = x := ⟨_, rfl⟩
          rw [hx] at HF hsn
          have hll := ordP_len (D := D) (d := d) hj
          obtain ⟨qa, qc, rfl⟩ := own_form HO.out
          by_cases hxd : x = d
          · subst hxd
            rw [if_pos rfl] at hsn
            have HSn := hid hsn
            clear hsn hx
            go_wp2_with (first | (go_at_call 37; refine HF.mono ?_; rintro e w1 ⟨rfl, rfl⟩) | (at_builtin; refine wpList_append_own_at _ rfl (.tmp 29) (.tmp 31) 39 rfl w.heap.size 3 i0 _ 1 8 Try.underlying39 hi hz0 hz1 hz2 rfl (by decide) _ (ordP n D x j).length (natVals (ordP n D x j)) rfl (HO.out.alloc _) ⟨wr.heap.size, 0, none⟩ 1 1 [.int .i64 (j : Int)] rfl rfl (Kit.news_one _ _ _) (Kit.ones_one rfl) (by unfold maxLen; omega) (by omega) (by simp only [World.size_alloc]; omega) ?_; intro v1 w1 ho1 hg1 _ hk1))
            have hb1 : Below w.heap.size w w1 := Kit.below_grown (HB.out.alloc hbz _) hg1 (by simp only [World.size_alloc]; omega) (Kit.own_base HO.out)
            have HO1 := hid (show w1.ownsRow w.heap.size 3 1 v1 (ordP n D x (j + 1)).length (natVals (ordP n D x (j + 1))) by rw [HSn.out, List.length_append, Kit.natVals_snoc]; exact ho1)
            clear ho1 hg1 hk1
            go_wp2
            go_roundw
            case rel => exact ⟨j + 1, by go_num, by omega, HO1, hb1⟩
            case measure => simp [intOf]; omega
          · have hxd2 : ¬ ((x : Int) = (d : Int)) := by omega
            rw [if_neg hxd] at hsn
            have HO1 := hid (show wr.ownsRow w.heap.size 3 1 (.slice qa (ordP n D d j).length qc) (ordP n D d (j + 1)).length (natVals (ordP n D d (j + 1))) by rw [hsn]; exact HO.out)
            clear hsn hx
            go_wp2_with (go_at_call 37; refine HF.mono ?_; rintro e w1 ⟨rfl, rfl⟩)
            go_roundw
            case rel => exact ⟨j + 1, by go_num, by omega, HO1, HB⟩
            case measure => simp [intOf]; omega
        · obtain rfl : j = n := by omega
          have HO1 := hid HO.out
          rw [ordP_next] at HO1
          go_wp2
          go_roundw
          case rel => exact ⟨d + 1, by go_num, by omega, HO1, HB⟩
          case measure => simp [intOf]; omega
    · obtain rfl : d = n + 1 := by omega
      have HO1 := HO
      rw [ordP_all] at HO1
      clear HO
      go_wp2
      go_ret
      exact ⟨_, rfl, HO1.out, HB.out⟩
end
end Go.Proofs.Ythjcnlgebkaonaa
namespace Go.Proofs.Ythjcnlgebkaonaa
open Go Go.RowKit
open Kit (natVals)

abbrev strV (N : List ByteArray) : List Value := N.map Value.string
abbrev intV (S : List Int) : List Value := S.map (Value.int .i64)
/-- The document's hierarchy with its rows in sight. -/
structure RX (w : World) (base rb : Nat) (nv sv : Value) (N : List ByteArray) (S : List Int) : Prop where
  box : w.heap[rb]? = some (.cells #[nv, sv] 63 (0, 0))
  nms : w.ownsRow base 9 1 nv N.length (strV N)
  sup : w.ownsRow base 3 1 sv S.length (intV S)
  lb : base ≤ rb
section
variable {w w0 w1 w2 : World} {base rb : Nat} {nv sv : Value} {N : List ByteArray} {S : List Int}
theorem RX.rm (h : RX w base rb nv sv N S) : RM w base rb N S := ⟨⟨nv, sv, h.box, h.nms, h.sup⟩, h.lb⟩
theorem RX.lt (h : RX w base rb nv sv N S) : rb < w.heap.size := (Array.getElem?_eq_some_iff.1 h.box).1
theorem RX.below (h : RX w base rb nv sv N S) (hb : Below w.heap.size w w1) : RX w1 base rb nv sv N S :=
  ⟨(hb.block _ h.lt).trans h.box, Kit.owns_below h.nms hb (Nat.le_refl _), Kit.owns_below h.sup hb (Nat.le_refl _), h.lb⟩
/-- One more name. -/
theorem RX.name (h : RX w base rb nv sv N S) (hB : Below base w0 w) (hw : base ≤ w.heap.size) {u : Value} {x : ByteArray} (hb : Below w.heap.size w w1) (hg : w1.grownBy w2 nv.ownBlock)
    (ho : w2.ownsRow base 9 1 u (N.length + 1) (strV N ++ [.string x])) :
    w2.cell? ⟨rb, 0, none⟩ = some nv ∧ w2.frozen? ⟨rb, 0, none⟩ = false ∧ RX (w2.setCell ⟨rb, 0, none⟩ u) base rb u sv (N ++ [x]) S ∧ Below base w0 (w2.setCell ⟨rb, 0, none⟩ u) ∧ w.heap.size ≤ (w2.setCell ⟨rb, 0, none⟩ u).heap.size := by
  have hc := (Chg.of_below (S := fun i => nv.ownBlock = some i) hb).grown hg (fun j e => .inl e)
  have hbx : BX w2 rb #[nv, sv] 63 := BX.chg (w := w) h.box hc (own_unlike_box h.nms h.box (by decide))
  have hS : Chg (fun i => i = rb) w2 (w2.setCell ⟨rb, 0, none⟩ u) := (Chg.refl (fun k => k = rb) w2).set (p := ⟨rb, 0, none⟩) (.inl rfl) u
  have hA : Chg (fun i => nv.ownBlock = some i ∨ i = rb) w (w2.setCell ⟨rb, 0, none⟩ u) := (hc.mono (T := fun i => nv.ownBlock = some i ∨ i = rb) (fun i _ e => .inl e)).set (.inl (.inr rfl)) _
  refine ⟨hbx.cell 0, hbx.frozen 0, ⟨box_set hbx _ _, ?_, owns_chg (owns_chg h.sup hc (own_unlike h.sup h.nms (by decide))) hS (fun k e e2 => own_unlike_box h.sup h.box (by decide) (e2 ▸ e)), h.lb⟩, hB.trans (hA.to_below (fun j e => ?_) hw), hA.size⟩
  · have e1 : (N ++ [x]).length = N.length + 1 := by simp
    have e2 : strV (N ++ [x]) = strV N ++ [.string x] := by simp
    rw [e1, e2]
    exact owns_chg ho hS (fun k e e2 => own_unlike_box ho hbx (by decide) (e2 ▸ e))
  · rcases e with e | rfl
    · exact Kit.own_base h.nms j e
    · exact h.lb
/-- One more super. -/
theorem RX.super (h : RX w base rb nv sv N S) (hB : Below base w0 w) (hw : base ≤ w.heap.size) {u : Value} {x : Int} (hb : Below w.heap.size w w1) (hg : w1.grownBy w2 sv.ownBlock)
    (ho : w2.ownsRow base 3 1 u (S.length + 1) (intV S ++ [.int .i64 x])) :
    w2.cell? ⟨rb, 1, none⟩ = some sv ∧ w2.frozen? ⟨rb, 1, none⟩ = false ∧ RX (w2.setCell ⟨rb, 1, none⟩ u) base rb nv u N (S ++ [x]) ∧ Below base w0 (w2.setCell ⟨rb, 1, none⟩ u) ∧ w.heap.size ≤ (w2.setCell ⟨rb, 1, none⟩ u).heap.size := by
  have hc := (Chg.of_below (S := fun i => sv.ownBlock = some i) hb).grown hg (fun j e => .inl e)
  have hbx : BX w2 rb #[nv, sv] 63 := BX.chg (w := w) h.box hc (own_unlike_box h.sup h.box (by decide))
  have hS : Chg (fun i => i = rb) w2 (w2.setCell ⟨rb, 1, none⟩ u) := (Chg.refl (fun k => k = rb) w2).set (p := ⟨rb, 1, none⟩) (.inl rfl) u
  have hA : Chg (fun i => sv.ownBlock = some i ∨ i = rb) w (w2.setCell ⟨rb, 1, none⟩ u) := (hc.mono (T := fun i => sv.ownBlock = some i ∨ i = rb) (fun i _ e => .inl e)).set (.inl (.inr rfl)) _
  refine ⟨hbx.cell 1, hbx.frozen 1, ⟨box_set hbx _ _, owns_chg (owns_chg h.nms hc (own_unlike h.nms h.sup (by decide))) hS (fun k e e2 => own_unlike_box h.nms h.box (by decide) (e2 ▸ e)), ?_, h.lb⟩, hB.trans (hA.to_below (fun j e => ?_) hw), hA.size⟩
  · have e1 : (S ++ [x]).length = S.length + 1 := by simp
    have e2 : intV (S ++ [x]) = intV S ++ [.int .i64 x] := by simp
    rw [e1, e2]
    exact owns_chg ho hS (fun k e e2 => own_unlike_box ho hbx (by decide) (e2 ▸ e))
  · rcases e with e | rfl
    · exact Kit.own_base h.sup j e
    · exact h.lb
end
theorem lines_at {w : World} {v : Value} {l : List Hi.Ln} (h : Kit.IsS 2 w v l.length (l.flatMap lnL)) {k : Nat} {x : Hi.Ln} (hx : l[k]? = some x) : ∃ b o p, v = .slice (some ⟨b, o, none⟩) l.length p ∧ b < w.heap.size ∧ w.cell? ⟨b, o + k * 2, none⟩ = some (.string x.1) ∧ w.cell? ⟨b, o + k * 2 + 1, none⟩ = some (.string x.2) := by
  have hk := (List.getElem?_eq_some_iff.1 hx).1
  obtain ⟨b, o, cap, h1, -, h3, h4⟩ := h.some (by omega)
  refine ⟨b, o, cap, h1, h3, ?_, ?_⟩
  · exact h4 (k * 2) _ (by have := Kit.flat_at lnL_len hx 0 (by omega); simpa [lnL] using this)
  · have := h4 (k * 2 + 1) (.string x.2) (by have := Kit.flat_at lnL_len hx 1 (by omega); simpa [lnL] using this)
    rw [Nat.add_assoc]
    exact this
/-- The supers of the classes that are built in. -/
def blS : List Int := [-1, 0, 1, 1, 1, 1, 1, 1]
/-- Supers, as the document writes them. -/
def supS (N : List ByteArray) (l : List Hi.Ln) : List Int := blS ++ l.map fun x => idxI x.2 N
theorem supS_at {l : List Hi.Ln} (hok : ∀ k x, 1 ≤ k → (Hi.bl ++ l)[k]? = some x → Hi.idx x.2 (Hi.nms (Hi.bl ++ l)) ≠ none) {k : Nat} (hk : k < (Hi.bl ++ l).length) : (supS (Hi.nms (Hi.bl ++ l)) l)[k]? = some (if k = 0 then -1 else ((Hi.sup (Hi.bl ++ l) k : Nat) : Int)) := by
  have hO : ∀ M : List ByteArray, Hi.idx Hi.bO (Hi.bO :: M) = some 0 := fun M => by show (if Hi.bO = Hi.bO then some 0 else _) = _; rw [if_pos rfl]
  have hT : ∀ M : List ByteArray, Hi.idx Hi.bT (Hi.bO :: Hi.bT :: M) = some 1 := fun M => by
    show (if Hi.bO = Hi.bT then some 0 else (if Hi.bT = Hi.bT then some 0 else _).map (· + 1)) = _
    rw [if_neg (by decide), if_pos rfl]; rfl
  unfold supS
  by_cases h8 : k < 8
  · rw [List.getElem?_append_left (by exact h8)]
    have e : ∀ j, j < 8 → (Hi.bl ++ l)[j]? = Hi.bl[j]? := fun j hj => List.getElem?_append_left hj
    unfold Hi.sup
    rw [e k h8]
    match k, h8 with
    | 0, _ => rfl
    | 1, _ => show some 0 = some ((((Hi.idx Hi.bO (Hi.nms (Hi.bl ++ l))).getD 0 : Nat)) : Int); rw [show Hi.nms (Hi.bl ++ l) = Hi.bO :: Hi.nms (Hi.bl.tail ++ l) from rfl, hO]; rfl
    | 2, _ | 3, _ | 4, _ | 5, _ | 6, _ | 7, _ => show some 1 = some ((((Hi.idx Hi.bT (Hi.nms (Hi.bl ++ l))).getD 0 : Nat)) : Int); rw [show Hi.nms (Hi.bl ++ l) = Hi.bO :: Hi.bT :: Hi.nms (Hi.bl.tail.tail ++ l) from rfl, hT]; rfl
  · have h8l : blS.length = 8 := rfl
    rw [List.getElem?_append_right (by rw [h8l]; omega), h8l, List.getElem?_map, if_neg (by omega)]
    have e : (Hi.bl ++ l)[k]? = l[k - 8]? := by rw [List.getElem?_append_right (by rw [Hi.bl_len]; omega), Hi.bl_len]
    unfold Hi.sup
    rw [e]
    rw [List.length_append, Hi.bl_len] at hk
    obtain ⟨x, hx⟩ : ∃ x, l[k - 8]? = some x := ⟨_, List.getElem?_eq_getElem (by omega)⟩
    rw [hx]
    have h1 := hok k x (by omega) (e.trans hx)
    simp only [Option.map_some]
    unfold idxI
    cases hi : Hi.idx x.2 (Hi.nms (Hi.bl ++ l)) with
    | none => exact absurd hi h1
    | some j => rfl
end Go.Proofs.Ythjcnlgebkaonaa
