/- HierLeast is true for every list of lines and every pair, without a condition. -/
import Derived.Test.YthjcnlgebkaonaaZB2
import Derived.Test.YthjcnlgebkaonaaRows
import Derived.ProofKit
import Derived.OpenShut
import Derived.ChangeSlices
import Derived.Deep.DeepHandedRow
import Derived.Lib.LaidTab
namespace Go.Proofs.Ythjcnlgebkaonaa
open Go Go.RowKit
open Kit (natVals)

theorem infoLn : (Try.prog.info? 56).map (fun i => (i.zero, i.size, i.bytes)) = some (some (.agg #[.string ⟨#[]⟩, .string ⟨#[]⟩]), 2, 32) := by kernel_rfl
theorem src_noneL (c : Nat) (w : World) : Src Try.prog 2 22 (.slice none 0 c) 0 [] w :=
  ⟨.inl ⟨_, Try.underlying22⟩, fun _ => rfl, rfl, rfl, rfl, fun u hu => by cases hu⟩
/-- An append of lines that are read. -/
theorem wpList_lines {ops : Array Oper} {rest : List Oper} {o : Oper} {a : Act} {w : World} {Q : Exit → Act → World → Prop} (hgd : o.guard = none) (s x : Operand)
    (hop : o.op = Op.call { callee := Callee.builtin Builtin.append, args := #[s, x], argTypes := #[22, 22] })
    (B : Nat) (v : Value) (n : Nat) (xs : List Value) (hs : a.eval s = v) (hown : w.ownsRow B 56 2 v n xs) (hB : B ≤ w.heap.size)
    (xv : Value) (m : Nat) (news : List Value) (hx : a.eval x = xv) (hr : Kit.IsS 2 w xv m news) (h1 : ∀ u ∈ news, u.oneCell' = true) (hnm : n + m ≤ 10000000)
    (hK : ∀ v' w', w'.ownsRow B 56 2 v' (n + m) (xs ++ news) → w.grownBy w' v.ownBlock → wpList Try.prog ops Q rest (a.put o.dst v') w') : wpList Try.prog ops Q (o :: rest) a w := by
  obtain ⟨i0, hi, hz0, hz1, hz2⟩ := info_parts infoLn
  have some' : ∀ ad c, xv = .slice (some ad) m c → (∀ j u, news[j]? = some u → w.cell? (ad.add j) = some u) → wpList Try.prog ops Q (o :: rest) a w := fun ad c he hc => by
    subst he
    refine wpList_plain hgd fun K hK2 => ?_
    obtain ⟨v', w', hr', h2, h3, -, h5⟩ := run_append_own_at (P := Try.prog) w B 22 o.type 56 i0 _ 2 32 Try.underlying22 hi hz0 hz1 hz2 rfl (by decide) v n xs hown ad m c news hr.1 hc h1 (by unfold maxLen; omega) (by omega) hB
    unfold Oper.wp execOp
    simp only [hop, resolve, invoke, builtin, Sem.run_bind, Sem.run_pure, Result.andThen_ok, List.map_toArray, List.map_cons, List.map_nil, hs, hx, hr']
    exact hK2 _ _ (hK _ _ h2 h3)
  rcases hr.2.2 with ⟨h0, ad, c, he⟩ | ⟨b, ofs, c, he, -, -, hc⟩
  · subst h0
    have hn : news = [] := List.eq_nil_of_length_eq_zero (by simpa using hr.1)
    cases ad with
    | some ad => exact some' ad c he (fun j u hj => by rw [hn] at hj; simp at hj)
    | none =>
      subst hn he
      have hcap : ∃ ad' n' c', v = .slice ad' n' c' ∧ n' ≤ c' := by
        rcases hown.2 with ⟨h, -⟩ | ⟨g, cap, cur, h, -, -, h4, -⟩
        · exact ⟨none, 0, 0, h, Nat.le_refl _⟩
        · exact ⟨_, _, _, h, h4⟩
      obtain ⟨ad', n', c', he', hle⟩ := hcap
      refine wpList_plain hgd fun K hK2 => ?_
      have hr' := run_append_nothing (P := Try.prog) w 22 22 o.type 56 i0 Try.underlying22 hi ad' n' c' hle (.slice none 0 c) (by rw [hz1]; exact src_noneL c w)
      rw [← he'] at hr'
      unfold Oper.wp execOp
      simp only [hop, resolve, invoke, builtin, Sem.run_bind, Sem.run_pure, Result.andThen_ok, List.map_toArray, List.map_cons, List.map_nil, hs, hx, hr']
      exact hK2 _ _ (hK _ _ (by simpa using hown) ⟨rfl, rfl, rfl, Nat.le_refl _, fun _ _ _ => rfl⟩)
  · exact some' _ c he (fun j u hj => by rw [Go.WideShapes.add_plain]; exact hc j u hj)
theorem lines_one (l : List Hi.Ln) : ∀ u ∈ l.flatMap lnL, u.oneCell' = true := by
  intro u hu
  obtain ⟨x, -, hx⟩ := List.mem_flatMap.1 hu
  simp only [lnL, List.mem_cons, List.not_mem_nil, or_false] at hx
  rcases hx with rfl | rfl <;> rfl
set_option maxRecDepth 100000 in
theorem builtIn_any (w : World) : Calls Try.prog 27 #[] w fun e w' => e = .returned (.slice (some ⟨w.heap.size, 0, none⟩) 8 8) ∧ w' = w.alloc (.cells (Hi.bl.flatMap lnL).toArray 56) := by
  go_enter Try.func27, Try.ntmps27
  go_wp2
  go_ret
  exact ⟨rfl, rfl⟩
/-- What hier.New answers. -/
def NewP (l : List Hi.Ln) (w : World) (e : Ending) (w' : World) : Prop :=
  ∃ v, e = .returned (.tuple #[v, .int .i64 (Hi.err l)]) ∧ Below w.heap.size w w' ∧ (Hi.err l ≠ 0 → v = .pointer none) ∧
    (Hi.err l = 0 → ∃ H D, v = .pointer (some ⟨H.hb, 0, none⟩) ∧ HM w' w.heap.size H ∧ HOk H (Hi.sup (Hi.bl ++ l)) D ∧ H.n = 8 + l.length ∧ H.names = Hi.nms (Hi.bl ++ l) ∧ H.nm = Hi.nmf (Hi.bl ++ l))
theorem NewP.bad {l : List Hi.Ln} {w w' : World} {k : Int} (he : Hi.err l = k) (hk : k ≠ 0) (hb : Below w.heap.size w w') : NewP l w (.returned (.tuple #[.pointer none, .int .i64 k])) w' :=
  ⟨_, by rw [he], hb, fun _ => rfl, fun h => absurd (he.symm.trans h) hk⟩
theorem run_makeMapH (w : World) (n : Int) : (Instr.makeMap 46 (some (.int .i64 n))).run Try.prog w = .ok (.map (some w.heap.size)) (w.alloc (.map #[] 0)) := by
  simp [Instr.makeMap, run_underlying Try.underlying46, asInt, asIntOf]
def H0 (hb mb : Nat) (cv ov : Value) (L : List Hi.Ln) : HV := ⟨hb, mb, cv, ov, 0, Hi.nmf L, fun _ => -1, fun _ => 0, fun _ => .slice none 0 0, fun _ => [], []⟩
theorem H0.rep {W : World} {base hb mb : Nat} {cv ov : Value} (L : List Hi.Ln) (h : W.heap[hb]? = some (.cells #[cv, .map (some mb), ov] 48 (0, 0))) (hm : NmM W mb []) (hc : W.ownsRow base 67 4 cv 0 []) (ho : W.ownsRow base 3 1 ov 0 []) (h1 : base ≤ hb) (h2 : base ≤ mb) : HM W base (H0 hb mb cv ov L) :=
  ⟨h, hm, hc, ho, (fun k hk => by cases hk), (fun i j hi => by cases hi), (fun i hi => by cases hi), h1, h2⟩
theorem own_made {W wx : World} {base N s k : Nat} {e : TypeId} {C : Array Value} (hk : k = W.heap.size) (hB : base ≤ W.heap.size) (hC : C.size = N * s) (hN : N ≤ maxLen) (hb : Below (W.heap.size + 1) (W.alloc (.cells C e)) wx) : wx.ownsRow base e s (.slice (some ⟨k, 0, none⟩) 0 N) 0 [] := by
  subst hk
  refine ⟨by simp, .inr ⟨W.heap.size, N, C, rfl, hB, (hb.block _ (by omega)).trans (heap_alloc_last W _), Nat.zero_le _, hN, hC, by simp⟩⟩
theorem box_made {W wx : World} {k : Nat} {cs : Array Value} {T : TypeId} (hk : k = W.heap.size) (hb : Below (W.heap.size + 1) (W.alloc (.cells cs T)) wx) : wx.heap[k]? = some (.cells cs T (0, 0)) := by
  subst hk
  exact (hb.block _ (by omega)).trans (heap_alloc_last W _)
theorem map_made {W wx : World} {k : Nat} (hk : k = W.heap.size) (hb : Below (W.heap.size + 1) (W.alloc (.map #[] 0)) wx) : NmM wx k [] := by
  subst hk
  exact (NmM.new W).keep (hb.block _ (by omega))
theorem err_long {l : List Hi.Ln} (h : 64 < l.length) : Hi.err l = 3 := by unfold Hi.err; rw [if_pos h]
theorem err_name {l : List Hi.Ln} (h : ¬ 64 < l.length) (h1 : ¬ (Hi.nms (Hi.bl ++ l)).Nodup) : Hi.err l = 70 := by unfold Hi.err Hi.errL; rw [if_neg h, if_pos h1]
theorem err_super {l : List Hi.Ln} (h : ¬ 64 < l.length) (h1 : (Hi.nms (Hi.bl ++ l)).Nodup) (h2 : ∃ k x, 1 ≤ k ∧ (Hi.bl ++ l)[k]? = some x ∧ Hi.idx x.2 (Hi.nms (Hi.bl ++ l)) = none) : Hi.err l = 71 := by
  unfold Hi.err Hi.errL
  rw [if_neg h, if_neg (fun k => k h1), if_pos h2]
theorem err_cycle {l : List Hi.Ln} (h : ¬ 64 < l.length) (h1 : (Hi.nms (Hi.bl ++ l)).Nodup) (h2 : ∀ k x, 1 ≤ k → (Hi.bl ++ l)[k]? = some x → Hi.idx x.2 (Hi.nms (Hi.bl ++ l)) ≠ none) (h3 : ¬ ∃ D, Hi.Tr (Hi.bl ++ l).length (Hi.sup (Hi.bl ++ l)) D) : Hi.err l = 72 := by
  unfold Hi.err Hi.errL
  rw [if_neg h, if_neg (fun k => k h1), if_neg (by rintro ⟨k, x, a, b, c⟩; exact h2 k x a b c), if_pos h3]
theorem err_ok {l : List Hi.Ln} (h : ¬ 64 < l.length) (h1 : (Hi.nms (Hi.bl ++ l)).Nodup) (h2 : ∀ k x, 1 ≤ k → (Hi.bl ++ l)[k]? = some x → Hi.idx x.2 (Hi.nms (Hi.bl ++ l)) ≠ none) (h3 : ∃ D, Hi.Tr (Hi.bl ++ l).length (Hi.sup (Hi.bl ++ l)) D) : Hi.err l = 0 := by
  unfold Hi.err Hi.errL
  rw [if_neg h, if_neg (fun k => k h1), if_neg (by rintro ⟨k, x, a, b, c⟩; exact h2 k x a b c), if_neg (fun k => k h3)]
theorem bl_small : ∀ x ∈ Hi.bl, x.1.size ≤ maxLen ∧ x.2.size ≤ maxLen := by
  intro x hx
  have : x.1.size ≤ 100 ∧ x.2.size ≤ 100 := by revert x; decide
  unfold maxLen
  omega
theorem made_ok {l : List Hi.Ln} {H : HV} {sv : Nat → Value} {ov : Value} {D : Nat → Nat} (hl : l.length ≤ 64) (tr : Hi.Tr (Hi.bl ++ l).length (Hi.sup (Hi.bl ++ l)) D) (hn : H.n = (Hi.bl ++ l).length) :
    HOk { hung H (Hi.bl ++ l) (Hi.bl ++ l).length sv with ov := ov, od := Hi.ordL H.n D, dp := D } (Hi.sup (Hi.bl ++ l)) D := by
  refine ⟨by show Hi.Tr H.n _ _; rw [hn]; exact tr, by show H.n ≤ 72; rw [hn, List.length_append, Hi.bl_len]; omega, fun k hk => ?_, fun k _ => rfl, fun k hk => ?_, rfl⟩
  · show suK _ _ k = _
    have hk' : k < (Hi.bl ++ l).length := by rw [← hn]; exact hk
    unfold suK
    by_cases h0 : k = 0
    · rw [if_pos h0, if_neg (by omega)]
    · rw [if_neg h0, if_pos ⟨by omega, hk'⟩]
  · show Hi.ch (Hi.bl ++ l).length _ k = Hi.ch H.n _ k
    rw [hn]
set_option maxRecDepth 100000 in
set_option maxHeartbeats 2000000 in
theorem New_any {w : World} {lv : Value} {l : List Hi.Ln} (hl : Kit.IsS 2 w lv l.length (l.flatMap lnL)) (hs : ∀ x ∈ l, x.1.size ≤ maxLen ∧ x.2.size ≤ maxLen) : Calls Try.prog 7 #[lv] w (NewP l w) := by
  have hll := hl.2.1
  have HLV := hid (fun X (b : Below w.heap.size w X) => hl.below b (Nat.le_refl _))
  obtain ⟨la, lc, rfl⟩ := hl.len
  clear hl
  by_cases h64 : 64 < l.length
  · have H64 := hid (err_long h64)
    go_enter Try.func7, Try.ntmps7
    go_wp2
    exact bodyPost_ret (v := .tuple #[.pointer none, .int .i64 3]) (by simp [results, Try.results7, go_sem]) rfl (NewP.bad H64.out (by decide) (Below.refl _ _))
  · have H64 := hid h64
    have hl64 : l.length ≤ 64 := by omega
    have HBi := hid (builtIn_any w)
    have HSz := hid (show ∀ x ∈ Hi.bl ++ l, x.1.size ≤ maxLen ∧ x.2.size ≤ maxLen from fun x hx => by
      rcases List.mem_append.1 hx with h | h
      · exact bl_small x h
      · exact hs x h)
    obtain ⟨ic, hic, hc0, hc1, hc2⟩ := info_parts infoC
    obtain ⟨ii, hii, hi0, hi1, hi2⟩ := info_parts infoI
    have hmm := run_makeMapH
    obtain ⟨cc, hcs, hmc⟩ : ∃ cc : Array Value, cc.size = (8 + l.length) * 4 ∧ ∀ W : World, (Instr.makeSlice 45 (.int .i64 0) (.int .i64 (8 + (l.length : Int)))).run Try.prog W = .ok (.slice (some ⟨W.heap.size, 0, none⟩) 0 (8 + l.length)) (W.alloc (.cells cc 67)) := ⟨_, size_madeCells _ _, fun W => by
      have h := run_make (P := Try.prog) (w := W) 45 67 ic _ Try.underlying45 hic hc0 .i64 .i64 0 (8 + (l.length : Int)) (by omega) (by omega) (by rw [hc2]; omega) (by omega)
      rw [hc1, show (8 + (l.length : Int)).toNat = 8 + l.length by omega] at h
      exact h⟩
    obtain ⟨cn, hns, hmi⟩ : ∃ cn : Array Value, cn.size = (8 + l.length) * 1 ∧ ∀ W : World, (Instr.makeSlice 39 (.int .i64 0) (.int .i64 (8 + (l.length : Int)))).run Try.prog W = .ok (.slice (some ⟨W.heap.size, 0, none⟩) 0 (8 + l.length)) (W.alloc (.cells cn 3)) := ⟨_, size_madeCells _ _, fun W => by
      have h := run_make (P := Try.prog) (w := W) 39 3 ii _ Try.underlying39 hii hi0 .i64 .i64 0 (8 + (l.length : Int)) (by omega) (by omega) (by rw [hi2]; omega) (by omega)
      rw [hi1, show (8 + (l.length : Int)).toNat = 8 + l.length by omega] at h
      exact h⟩
    have HCS := hid hcs
    have HNS := hid hns
    clear hcs hns
    have hown0 : (w.alloc (.cells (Hi.bl.flatMap lnL).toArray 56)).ownsRow w.heap.size 56 2 (.slice (some ⟨w.heap.size, 0, none⟩) 8 8) 8 (Hi.bl.flatMap lnL) :=
      ⟨rfl, .inr ⟨w.heap.size, 8, _, rfl, Nat.le_refl _, heap_alloc_last w _, Nat.le_refl _, by unfold maxLen; omega, rfl, rfl⟩⟩
    have HO0 := hid hown0
    clear h64 hs hown0 hic hc0 hc1 hc2 hii hi0 hi1 hi2
    go_enter Try.func7, Try.ntmps7
    go_upto_region 4 with (first | (go_at_call 27; refine HBi.out.mono ?_; rintro e w1 ⟨rfl, rfl⟩) | (at_builtin; refine wpList_lines rfl (.tmp 9) (.tmp 10) rfl w.heap.size (.slice (some ⟨w.heap.size, 0, none⟩) 8 8) 8 (Hi.bl.flatMap lnL) rfl HO0.out (by simp) (.slice la l.length lc) l.length (l.flatMap lnL) rfl (HLV.out _ (by repeat' first | with_reducible exact Below.refl _ _ | with_reducible assumption | with_reducible refine belows_drewN ?_ _ | with_reducible refine Below.drew ?_ | with_reducible refine Below.setCell ?_ ?_ _ | with_reducible refine Below.alloc ?_ ?_ _ | omega | (simp; done) | (simp; omega))) (lines_one l) (by omega) ?_; intro v1 w1 ho1 hg1; have hb1 : Below w.heap.size w w1 := Kit.below_grown ((Below.refl _ w).alloc (Nat.le_refl _) (.cells (Hi.bl.flatMap lnL).toArray 56)) hg1 (by simp) (Kit.own_base HO0.out); obtain ⟨va, vp, rfl⟩ := own_form ho1; have HLn := hid (show Lns w1 w.heap.size (.slice va (8 + l.length) vp) (Hi.bl ++ l) by unfold Lns; rw [List.length_append, Hi.bl_len, List.flatMap_append]; exact ho1); have HB1 := hid hb1; clear ho1 hg1 hb1))
    go_cut [4, 5] (fun v p wx => v = .slice va (8 + l.length) vp ∧ p = .pointer (some ⟨w1.heap.size + 3, 0, none⟩) ∧ ∃ (mb : Nat) (cv ov : Value), Hid (HM wx w.heap.size (H0 (w1.heap.size + 3) mb cv ov (Hi.bl ++ l)) ∧ Below w1.heap.size w1 wx))
    case first =>
      go_region
      all_goals
        go_wp2
        go_meet
        have hm3 : (8 + l.length) ≤ maxLen := by unfold maxLen; omega
        have hz1 : w.heap.size ≤ w1.heap.size := HB1.out.size
        have e1 : ∀ W : World, ∀ o : Obj, W.heap.size + 1 ≤ (W.alloc o).heap.size := fun W o => by rw [World.size_alloc]; exact Nat.le_refl _
        have e2 : ∀ (W : World) (o o2 : Obj), W.heap.size + 1 ≤ ((W.alloc o).alloc o2).heap.size := fun W o o2 => by rw [World.size_alloc, World.size_alloc]; omega
        have e3 : ∀ (W : World) (o o2 o3 : Obj), W.heap.size + 1 ≤ (((W.alloc o).alloc o2).alloc o3).heap.size := fun W o o2 o3 => by rw [World.size_alloc, World.size_alloc, World.size_alloc]; omega
        refine ⟨rfl, rfl, _, _, _, hid ⟨H0.rep _ (box_made ?_ (Below.drew (Below.refl _ _))) ?_ ?_ ?_ ?_ ?_, ?_⟩⟩
        · simp only [World.size_alloc]
        · first
            | exact map_made (by first | rfl | (repeat rw [World.size_alloc])) (Below.drew ((Below.refl _ _).alloc (e1 _ _) _))
            | exact map_made (by first | rfl | (repeat rw [World.size_alloc])) (Below.drew (((Below.refl _ _).alloc (e1 _ _) _).alloc (e2 _ _ _) _))
            | exact map_made (by first | rfl | (repeat rw [World.size_alloc])) (Below.drew ((((Below.refl _ _).alloc (e1 _ _) _).alloc (e2 _ _ _) _).alloc (e3 _ _ _ _) _))
        · first
            | exact own_made (by first | rfl | (repeat rw [World.size_alloc])) (by first | omega | ((repeat rw [World.size_alloc]); omega)) HCS.out hm3 (Below.drew ((Below.refl _ _).alloc (e1 _ _) _))
            | exact own_made (by first | rfl | (repeat rw [World.size_alloc])) (by first | omega | ((repeat rw [World.size_alloc]); omega)) HCS.out hm3 (Below.drew (((Below.refl _ _).alloc (e1 _ _) _).alloc (e2 _ _ _) _))
            | exact own_made (by first | rfl | (repeat rw [World.size_alloc])) (by first | omega | ((repeat rw [World.size_alloc]); omega)) HCS.out hm3 (Below.drew ((((Below.refl _ _).alloc (e1 _ _) _).alloc (e2 _ _ _) _).alloc (e3 _ _ _ _) _))
        · first
            | exact own_made (by first | rfl | (repeat rw [World.size_alloc])) (by first | omega | ((repeat rw [World.size_alloc]); omega)) HNS.out hm3 (Below.drew ((Below.refl _ _).alloc (e1 _ _) _))
            | exact own_made (by first | rfl | (repeat rw [World.size_alloc])) (by first | omega | ((repeat rw [World.size_alloc]); omega)) HNS.out hm3 (Below.drew (((Below.refl _ _).alloc (e1 _ _) _).alloc (e2 _ _ _) _))
            | exact own_made (by first | rfl | (repeat rw [World.size_alloc])) (by first | omega | ((repeat rw [World.size_alloc]); omega)) HNS.out hm3 (Below.drew ((((Below.refl _ _).alloc (e1 _ _) _).alloc (e2 _ _ _) _).alloc (e3 _ _ _ _) _))
        · omega
        · omega
        · exact Below.drew (((((Below.refl _ w1).alloc (Nat.le_refl _) _).alloc (by simp only [World.size_alloc]; omega) _).alloc (by simp only [World.size_alloc]; omega) _).alloc (by simp only [World.size_alloc]; omega) _)
    case rest =>
      obtain ⟨rfl, rfl, mb, cv0, ov0, HH⟩ := hcut
      obtain ⟨W3, hW3⟩ : ∃ W3, W3 = wc := ⟨_, rfl⟩
      rw [← hW3] at HH ⊢
      clear hW3
      have hz1 := HB1.out.size
      have hbare : Bare (H0 (w1.heap.size + 3) mb cv0 ov0 (Hi.bl ++ l)) (Hi.bl ++ l) := ⟨rfl, rfl, fun _ => rfl, fun _ => rfl, fun _ => rfl, fun _ => rfl, rfl⟩
      have hLl : (Hi.bl ++ l).length ≤ 72 := by rw [List.length_append, Hi.bl_len]; omega
      have hNa := nameAll_any HH.out.1 (HLn.out.below HH.out.2) hbare hLl (fun x hx => (HSz.out x hx).1)
      have HNa := hid hNa
      have HB3 := hid (belows HB1.out HH.out.2 hz1)
      have hz3 := HB3.out.size
      have HPn := hid (show 1 ≤ (Hi.bl ++ l).length by rw [List.length_append, Hi.bl_len]; omega)
      have HLl := hid hLl
      clear HH hbare hLl hNa
      obtain ⟨H1, hH1⟩ : ∃ H1, H1 = H0 (w1.heap.size + 3) mb cv0 ov0 (Hi.bl ++ l) := ⟨_, rfl⟩
      have HH1 := hid hH1
      have ehb : H1.hb = w1.heap.size + 3 := by rw [hH1]; rfl
      rw [← hH1] at HNa
      rw [← ehb]
      clear hH1 ehb
      go_wp2_with fail
      refine HNa.out.mono ?_
      rintro e w4 ⟨hb4, hz4, (⟨rfl, hnd⟩ | ⟨rfl, hnd, cv, hm4, hl4⟩)⟩
      · have HB4 := hid (HB3.out.trans hb4)
        have HE := hid (err_name H64.out hnd)
        clear hnd hb4
        go_wp2
        exact bodyPost_ret (v := .tuple #[.pointer none, .int .i64 70]) (by simp [results, Try.results7, go_sem]) rfl (NewP.bad HE.out (by decide) HB4.out)
      · have HB4 := hid (HB3.out.trans hb4)
        have hHa := hangAll_any hm4 hl4 rfl HLl.out (by show H1.nm = _; rw [HH1.out]; rfl) (fun x hx => (HSz.out x hx).2) (fun k => by show H1.su k = _; rw [HH1.out]; rfl) (fun k => by show H1.sb k = _; rw [HH1.out]; rfl)
        change Calls _ _ #[.pointer (some ⟨H1.hb, 0, none⟩), .slice va (8 + l.length) vp] w4 _ at hHa
        have HHa := hid hHa
        have HND := hid hnd
        clear hHa hm4 hl4 hnd hb4 HNa
        go_wp2_with fail
        refine HHa.out.mono ?_
        rintro e w5 ⟨hb5, hz5, (⟨rfl, hbad⟩ | ⟨rfl, hok, sv, hm5⟩)⟩
        · have HB5 := hid (HB4.out.trans hb5)
          have HE := hid (err_super H64.out HND.out hbad)
          clear hbad hb5
          go_wp2
          exact bodyPost_ret (v := .tuple #[.pointer none, .int .i64 71]) (by simp [results, Try.results7, go_sem]) rfl (NewP.bad HE.out (by decide) HB5.out)
        · have HB5 := hid (HB4.out.trans hb5)
          have hOr := orderAll_any (P := Hi.sup (Hi.bl ++ l)) hm5 HPn.out HLl.out (fun k _ _ => Hi.sup_lt _ HPn.out k) (fun k _ => rfl) (by show H1.od = _; rw [HH1.out]; rfl) (by show H1.dp = _; rw [HH1.out]; rfl)
          change Calls _ _ #[.pointer (some ⟨H1.hb, 0, none⟩)] w5 _ at hOr
          have HOr := hid hOr
          have HOk := hid hok
          clear hOr hm5 hok hb5 HHa
          go_wp2_with fail
          refine HOr.out.mono ?_
          rintro e w6 ⟨hb6, hz6, (⟨rfl, hbad⟩ | ⟨rfl, D, ov, tr, hm6⟩)⟩
          · have HB6 := hid (HB5.out.trans hb6)
            have HE := hid (err_cycle H64.out HND.out HOk.out hbad)
            clear hbad hb6
            go_wp2
            exact bodyPost_ret (v := .tuple #[.pointer none, .int .i64 72]) (by simp [results, Try.results7, go_sem]) rfl (NewP.bad HE.out (by decide) HB6.out)
          · have HB6 := hid (HB5.out.trans hb6)
            have HE := hid (err_ok H64.out HND.out HOk.out ⟨D, tr⟩)
            have HT := hid tr
            have HM6 := hid hm6
            clear hm6 tr hb6
            go_wp2
            refine bodyPost_ret (v := .tuple #[.pointer (some ⟨H1.hb, 0, none⟩), .int .i64 0]) (by simp [results, Try.results7, go_sem]) rfl ⟨.pointer (some ⟨H1.hb, 0, none⟩), by rw [HE.out], HB6.out, fun h => absurd HE.out h, fun _ => ⟨{ hung { H1 with cv := cv, n := (Hi.bl ++ l).length } (Hi.bl ++ l) (Hi.bl ++ l).length sv with ov := ov, od := Hi.ordL (Hi.bl ++ l).length D, dp := D }, D, rfl, HM6.out, made_ok (H := { H1 with cv := cv, n := (Hi.bl ++ l).length }) hl64 HT.out rfl, by show (Hi.bl ++ l).length = _; rw [List.length_append, Hi.bl_len], ?_, ?_⟩⟩
            · show (List.range (Hi.bl ++ l).length).map H1.nm = _
              rw [HH1.out]
              exact (Hi.nms_eq _).symm
            · show H1.nm = _
              rw [HH1.out]
              rfl
end Go.Proofs.Ythjcnlgebkaonaa
namespace Go.Proofs.Ythjcnlgebkaonaa
open Go Go.RowKit
open Kit (natVals)

/-- hier.New, where the lines are a hierarchy; and where they are none. -/
theorem New_yes {w : World} {lv : Value} {l : List Hi.Ln} (hl : Kit.IsS 2 w lv l.length (l.flatMap lnL)) (hs : ∀ x ∈ l, x.1.size ≤ maxLen ∧ x.2.size ≤ maxLen) (he : Hi.err l = 0) : Calls Try.prog 7 #[lv] w fun e w' =>
    ∃ H D, e = .returned (.tuple #[.pointer (some ⟨H.hb, 0, none⟩), .int .i64 0]) ∧ Below w.heap.size w w' ∧ HM w' w.heap.size H ∧ HOk H (Hi.sup (Hi.bl ++ l)) D ∧ H.n = 8 + l.length ∧ H.names = Hi.nms (Hi.bl ++ l) ∧ H.nm = Hi.nmf (Hi.bl ++ l) :=
  (New_any hl hs).mono fun e w' ⟨v, h1, h2, _, h4⟩ => by
    obtain ⟨H, D, rfl, a, b, c, d, f⟩ := h4 he
    rw [he] at h1
    exact ⟨H, D, h1, h2, a, b, c, d, f⟩
theorem New_no {w : World} {lv : Value} {l : List Hi.Ln} (hl : Kit.IsS 2 w lv l.length (l.flatMap lnL)) (hs : ∀ x ∈ l, x.1.size ≤ maxLen ∧ x.2.size ≤ maxLen) (he : Hi.err l ≠ 0) : Calls Try.prog 7 #[lv] w fun e w' =>
    e = .returned (.tuple #[.pointer none, .int .i64 (Hi.err l)]) ∧ Below w.heap.size w w' :=
  (New_any hl hs).mono fun e w' ⟨v, h1, h2, h3, _⟩ => by
    rw [h3 he] at h1
    exact ⟨h1, h2⟩
def lv2 : List Hi.Ln := [(⟨#[66]⟩, ⟨#[65]⟩), (⟨#[65]⟩, Hi.bO)]
def d2 : Nat → Nat := fun k => match k with | 0 => 0 | 1 => 1 | 8 => 2 | 9 => 1 | _ => 2
theorem tr2 : Hi.Tr 10 (Hi.sup (Hi.bl ++ lv2)) d2 := by
  refine ⟨by omega, fun k _ _ => Hi.sup_lt _ (by decide) k, rfl, fun k h1 hk => ?_⟩
  match k, h1, hk with
  | 1, _, _ | 2, _, _ | 3, _, _ | 4, _, _ | 5, _, _ | 6, _, _ | 7, _, _ | 8, _, _ | 9, _, _ => decide
theorem err2 : Hi.err lv2 = 0 := by
  refine err_ok (by decide) (by decide) (fun k x h1 hx => ?_) ⟨d2, tr2⟩
  have hk : k < 10 := (List.getElem?_eq_some_iff.1 hx).1
  match k, h1, hk with
  | 1, _, _ | 2, _, _ | 3, _, _ | 4, _, _ | 5, _, _ | 6, _, _ | 7, _, _ | 8, _, _ | 9, _, _ => cases hx; decide
theorem und2 {D : Nat → Nat} (t : Hi.Tr 10 (Hi.sup (Hi.bl ++ lv2)) D) {a b : Nat} (ha : a < 10) (hb : b < 10) : Hi.und (Hi.sup (Hi.bl ++ lv2)) D a b = Hi.und (Hi.sup (Hi.bl ++ lv2)) d2 a b := by
  have e1 := tr2.one t (d2 a) a ha rfl
  have e2 := tr2.one t (d2 b) b hb rfl
  unfold Hi.und
  rw [e1, e2]
theorem cm2 {D : Nat → Nat} (t : Hi.Tr 10 (Hi.sup (Hi.bl ++ lv2)) D) {a b : Nat} (ha : a < 10) (hb : b < 10) : Hi.cm (Hi.sup (Hi.bl ++ lv2)) D a b = Hi.cm (Hi.sup (Hi.bl ++ lv2)) d2 a b := by
  have e1 := tr2.one t (d2 a) a ha rfl
  have e2 := tr2.one t (d2 b) b hb rfl
  unfold Hi.cm
  rw [e1, e2]
set_option maxRecDepth 100000 in
set_option maxHeartbeats 1000000 in
theorem live_any (w : World) : Calls Try.prog 9 #[] w fun e w' => e = .returned (.bool true) ∧ Below w.heap.size w w' := by
  have hl0 : Kit.IsS 2 (w.alloc (.cells (lv2.flatMap lnL).toArray 56)) (.slice (some ⟨w.heap.size, 0, none⟩) 2 2) lv2.length (lv2.flatMap lnL) :=
    ⟨rfl, by decide, .inr ⟨w.heap.size, 0, 2, rfl, by decide, by simp, fun i u hi => by rw [Nat.zero_add, BX.cell (BX.new w _ _)]; simpa using hi⟩⟩
  have HN := hid (New_yes hl0 (by intro x hx; have : x.1.size ≤ 100 ∧ x.2.size ≤ 100 := by revert x; decide
                                  unfold maxLen; omega) err2)
  clear hl0
  have hb0 : Below w.heap.size w (w.alloc (.cells (lv2.flatMap lnL).toArray 56)) := (Below.refl _ _).alloc (Nat.le_refl _) _
  have HB0 := hid hb0
  obtain ⟨W0, hW0⟩ : ∃ W0, W0 = w.alloc (.cells (lv2.flatMap lnL).toArray 56) := ⟨_, rfl⟩
  have HW0 := hid hW0
  rw [← hW0] at HN HB0
  clear hW0 hb0
  go_enter Try.func9, Try.ntmps9
  go_wp2_with fail
  change Calls _ _ _ (w.alloc (.cells (lv2.flatMap lnL).toArray 56)) _
  rw [← HW0.out]
  refine HN.out.mono ?_
  rintro e w1 ⟨H, D, rfl, hb1, hm, ok, hn, hnm, -⟩
  have hB1 := belows HB0.out hb1 HB0.out.size
  have hn10 : H.n = 10 := hn
  have hF := Find_any hm ⟨#[65]⟩ (by unfold maxLen; decide)
  rw [hnm, show Hi.idx ⟨#[65]⟩ (Hi.nms (Hi.bl ++ lv2)) = some 9 by decide] at hF
  have hL := Len_any hm
  rw [hn10] at hL
  have tr := ok.tr
  rw [hn10] at tr
  have hU1 := Under_any hm ok 8 9
  have hU2 := Under_any hm ok 9 8
  have hC := Common_any hm ok 8 2
  unfold HV.underO at hU1 hU2
  unfold HV.commonO at hC
  rw [hn10, show isC 10 8 = true by decide, show isC 10 9 = true by decide, Bool.true_and, Bool.true_and, show (8 : Int).toNat = 8 from rfl, show (9 : Int).toNat = 9 from rfl, und2 tr (by omega) (by omega)] at hU1 hU2
  rw [show Hi.und (Hi.sup (Hi.bl ++ lv2)) d2 8 9 = true by decide] at hU1
  rw [show Hi.und (Hi.sup (Hi.bl ++ lv2)) d2 9 8 = false by decide] at hU2
  rw [hn10, show (isC 10 8 && isC 10 2) = true by decide, if_pos rfl, show (8 : Int).toNat = 8 from rfl, show (2 : Int).toNat = 2 from rfl, cm2 tr (by omega) (by omega), show Hi.cm (Hi.sup (Hi.bl ++ lv2)) d2 8 2 = 0 by decide] at hC
  have HF := hid hF
  have HL := hid hL
  have HU1 := hid hU1
  have HU2 := hid hU2
  have HC := hid hC
  have HB1 := hid hB1
  obtain ⟨hb, hhb⟩ : ∃ hb, H.hb = hb := ⟨_, rfl⟩
  rw [hhb] at HF HL HU1 HU2 HC ⊢
  clear hF hL hU1 hU2 hC hB1 hm ok hn hnm hn10 tr hb1 hhb HN HB0 HW0
  go_wp2_with (first | (go_at_call 20; refine HF.out.mono ?_; rintro e w' ⟨rfl, rfl⟩) | (go_at_call 17; refine HL.out.mono ?_; rintro e w' ⟨rfl, rfl⟩) | (go_at_call 12; refine HC.out.mono ?_; rintro e w' ⟨rfl, m, rfl⟩) | (go_at_call 10; (with_reducible refine HU1.out.mono ?_); rintro e w' ⟨rfl, rfl⟩) | (go_at_call 10; (with_reducible refine HU2.out.mono ?_); rintro e w' ⟨rfl, rfl⟩))
  go_ret
  exact ⟨by simp, belows HB1.out (below_drewN _ _) HB1.out.size⟩
end Go.Proofs.Ythjcnlgebkaonaa
namespace Go.Proofs.Ythjcnlgebkaonaa
open Go Go.RowKit
open Kit (natVals)

set_option maxRecDepth 100000 in
set_option maxHeartbeats 2000000 in
theorem least_law {w : World} {lv : Value} {l : List Hi.Ln} (hl : Kit.IsS 2 w lv l.length (l.flatMap lnL)) (hs : ∀ x ∈ l, x.1.size ≤ maxLen ∧ x.2.size ≤ maxLen) (pa pb ps : Int) : Calls Try.prog 5 #[lv, .agg #[.int .i64 pa, .int .i64 pb, .int .i64 ps]] w fun e w' => e = .returned (.bool true) ∧ Below w.heap.size w w' := by
  have hl0 := fun X (b : Below w.heap.size w X) => hl.below b (Nat.le_refl _)
  have hbx := BX.new w #[.int .i64 pa, .int .i64 pb, .int .i64 ps] 24
  have hB0 : Below w.heap.size w (w.alloc (.cells #[.int .i64 pa, .int .i64 pb, .int .i64 ps] 24)) := (Below.refl _ _).alloc (Nat.le_refl _) _
  have HB0 := hid hB0
  have HBX := hid hbx
  by_cases he : Hi.err l = 0
  · have HN := hid (New_yes (hl0 _ hB0) hs he)
    obtain ⟨W0, hW0⟩ : ∃ W0, W0 = w.alloc (.cells #[.int .i64 pa, .int .i64 pb, .int .i64 ps] 24) := ⟨_, rfl⟩
    have HW0 := hid hW0
    rw [← hW0] at HN HB0 HBX
    clear hl hs he hl0 hB0 hbx hW0
    go_enter Try.func5, Try.ntmps5
    go_wp2_with fail
    rw [← HW0.out]
    refine HN.out.mono ?_
    rintro e w1 ⟨H, D, rfl, hb1, hm, ok, -, -, -⟩
    have HM := hid hm
    have HB1 := hid (belows HB0.out hb1 HB0.out.size)
    have HX1 := hid (HBX.out.below hb1)
    have OK := hid ok
    obtain ⟨P, hP⟩ : ∃ P, P = Hi.sup (Hi.bl ++ l) := ⟨_, rfl⟩
    rw [← hP] at OK
    clear hm hb1 ok hP HN HW0
    go_wp2_with fail
    refine (live_any w1).mono ?_
    rintro e w2 ⟨rfl, hb2⟩
    have HM2 := hid (HM.out.below hb2)
    have HB2 := hid (belows HB1.out hb2 HB1.out.size)
    have hX2 := HX1.out.below hb2
    have x0 : w2.cell? ⟨w.heap.size, 0, none⟩ = some (.int .i64 pa) := hX2.cell 0
    have x1 : w2.cell? ⟨w.heap.size, 1, none⟩ = some (.int .i64 pb) := hX2.cell 1
    have HU := hid (fun m a b => Under_any (HM2.out.drewN m) OK.out a b)
    have HC := hid (fun m a b => Common_any (HM2.out.drewN m) OK.out a b)
    have HL := hid (fun m => Len_any (HM2.out.drewN m))
    have HD := hid (fun a => Depth_any HM2.out a)
    have HC0 := hid (fun a b => Common_any HM2.out OK.out a b)
    unfold HV.underO at HU
    unfold HV.commonO at HC HC0
    unfold HV.depthO at HD
    obtain ⟨n, hn⟩ : ∃ n, H.n = n := ⟨_, rfl⟩
    have tr := OK.out.tr
    have hle := OK.out.le
    rw [hn] at HU HL HC HC0 HD tr hle
    obtain ⟨hb, hhb⟩ : ∃ hb, H.hb = hb := ⟨_, rfl⟩
    rw [hhb] at HU HL HC HC0 HD ⊢
    have HT := hid tr
    have hx2s := hX2.sz
    clear hb2 HM HB1 HM2 OK hn hhb tr HX1 hX2 HB0 HBX
    have no : (isC n pa && isC n pb) = false → Calls Try.prog 12 #[.pointer (some ⟨hb, 0, none⟩), .int .i64 pa, .int .i64 pb] w2 fun e w' => e = .returned (.int .i64 (-1)) ∧ ∃ m, w' = w2.drewN m := fun h => by
      have := HC0.out pa pb
      rw [if_neg (by rw [h]; simp)] at this
      exact this
    have NO := hid no
    clear no
    cases hpa : isC n pa with
    | false =>
      have HD1 := hid (HD.out pa)
      rw [hpa, if_neg (by simp)] at HD1
      have HC1 := hid (NO.out (by rw [hpa, Bool.false_and]))
      clear hpa HU HC HC0 HL HD NO
      go_wp2_with (first | (go_at_call 19; refine HD1.out.mono ?_; rintro e w' ⟨rfl, rfl⟩) | (go_at_call 12; refine HC1.out.mono ?_; rintro e w' ⟨rfl, m, rfl⟩))
      go_ret
      exact ⟨by simp, belows HB2.out (below_drewN _ _) HB2.out.size⟩
    | true =>
      obtain ⟨i, rfl, hin⟩ := isC_yes hpa
      have HD1 := hid (HD.out (i : Int))
      rw [hpa, if_pos rfl] at HD1
      obtain ⟨di, hdi⟩ : ∃ x, H.dp (i : Int).toNat = x := ⟨_, rfl⟩
      rw [hdi] at HD1
      cases hpb : isC n pb with
      | false =>
        have HD2 := hid (HD.out pb)
        rw [hpb, if_neg (by simp)] at HD2
        have HC1 := hid (NO.out (by rw [hpb, Bool.and_false]))
        clear hpa hpb HU HC HC0 HL HD NO hdi hin
        go_wp2_with (first | (go_at_call 19; (with_reducible refine HD1.out.mono ?_); rintro e w' ⟨rfl, rfl⟩) | (go_at_call 19; (with_reducible refine HD2.out.mono ?_); rintro e w' ⟨rfl, rfl⟩) | (go_at_call 12; refine HC1.out.mono ?_; rintro e w' ⟨rfl, m, rfl⟩))
        go_ret
        exact ⟨by simp, belows HB2.out (below_drewN _ _) HB2.out.size⟩
      | true =>
        obtain ⟨j, rfl, hjn⟩ := isC_yes hpb
        have HD2 := hid (HD.out (j : Int))
        rw [hpb, if_pos rfl] at HD2
        obtain ⟨dj', hdj⟩ : ∃ x, H.dp (j : Int).toNat = x := ⟨_, rfl⟩
        rw [hdj] at HD2
        obtain ⟨q1, q2, q3, q4⟩ := HT.out.cm_ok hin hjn
        have hco := HT.out.cm_comm hin hjn
        have HC1 := HC0.out i j
        have HC2 := fun m => HC.out m j i
        rw [if_pos (by rw [hpa, hpb]; rfl), Int.toNat_natCast, Int.toNat_natCast] at HC1
        have HC2' : ∀ m, Calls Try.prog 12 #[.pointer (some ⟨hb, 0, none⟩), .int .i64 (j : Int), .int .i64 (i : Int)] (w2.drewN m) fun e w' => e = .returned (.int .i64 ((Hi.cm P D i j : Nat) : Int)) ∧ ∃ k, w' = (w2.drewN m).drewN k := fun m => by
          have := HC2 m
          rw [if_pos (by rw [hpa, hpb]; rfl), Int.toNat_natCast, Int.toNat_natCast, ← hco] at this
          exact this
        obtain ⟨c, hc⟩ : ∃ c, Hi.cm P D i j = c := ⟨_, rfl⟩
        rw [hc] at q1 q2 q3 q4 HC1 HC2'
        have HC1 := hid HC1
        have HCC := hid HC2'
        have hu : ∀ (m a b : Nat), a < n → b < n → Calls Try.prog 10 #[.pointer (some ⟨hb, 0, none⟩), .int .i64 (a : Int), .int .i64 (b : Int)] (w2.drewN m) fun e w' => e = .returned (.bool (Hi.und P D a b)) ∧ w2.drewN m = w' := fun m a b ha hb' => by
          have := HU.out m a b
          rw [isC_nat ha, isC_nat hb', Bool.true_and, Bool.true_and, Int.toNat_natCast, Int.toNat_natCast] at this
          exact this
        have HUU := hid hu
        have U1 := hid (fun m => hu m i c hin q3)
        have U2 := hid (fun m => hu m j c hjn q3)
        rw [q1] at U1
        rw [q2] at U2
        have Q3 := hid q3
        have Q4 := hid q4
        have HI := hid hin
        have HJ := hid hjn
        clear hpa hpb HU HC HC0 HD NO hdi hdj hin hjn hco HC2 HC2' hc q1 q2 q3 q4 hu
        go_wp2_with (first | (go_at_call 19; (with_reducible refine HD1.out.mono ?_); rintro e w' ⟨rfl, rfl⟩) | (go_at_call 19; (with_reducible refine HD2.out.mono ?_); rintro e w' ⟨rfl, rfl⟩) | (go_at_call 12; (with_reducible refine HC1.out.mono ?_); rintro e w' ⟨rfl, m1, rfl⟩) | (go_at_call 12; (with_reducible refine (HCC.out _).mono ?_); rintro e w' ⟨rfl, m2, rfl⟩; rw [dn2]) | (go_at_call 10; (with_reducible refine (U1.out _).mono ?_); rintro e w' ⟨rfl, rfl⟩) | (go_at_call 10; (with_reducible refine (U2.out _).mono ?_); rintro e w' ⟨rfl, rfl⟩) | (go_at_call 17; refine (HL.out _).mono ?_; rintro e w' ⟨rfl, rfl⟩))
        go_loop [71] (fun v => ∃ k : Nat, v = .int .i64 (k : Int) ∧ k ≤ n) (fun v => n - (intOf v).toNat)
        case atStart => exact ⟨0, rfl, by omega⟩
        case round =>
          obtain ⟨k, rfl, hkn⟩ := hrel
          by_cases hk : k < n
          · have V1 := hid (fun m => HUU.out m i k HI.out hk)
            have V2 := hid (fun m => HUU.out m j k HJ.out hk)
            have V3 := hid (fun m => HUU.out m c k Q3.out hk)
            have q4 := Q4.out k
            cases h1 : Hi.und P D i k with
            | false =>
              rw [h1] at V1
              clear h1 q4
              go_wp2_with (go_at_call 10; (with_reducible refine (V1.out _).mono ?_); rintro e w' ⟨rfl, rfl⟩)
              go_round
              case rel => exact ⟨k + 1, by go_num, by omega⟩
              case measure => simp [intOf]; omega
            | true =>
              cases h2 : Hi.und P D j k with
              | false =>
                rw [h1] at V1
                rw [h2] at V2
                clear h1 h2 q4
                go_wp2_with (first | (go_at_call 10; (with_reducible refine (V1.out _).mono ?_); rintro e w' ⟨rfl, rfl⟩) | (go_at_call 10; (with_reducible refine (V2.out _).mono ?_); rintro e w' ⟨rfl, rfl⟩))
                go_round
                case rel => exact ⟨k + 1, by go_num, by omega⟩
                case measure => simp [intOf]; omega
              | true =>
                rw [q4 h1 h2] at V3
                rw [h1] at V1
                rw [h2] at V2
                clear h1 h2 q4
                go_wp2_with (first | (go_at_call 10; (with_reducible refine (V1.out _).mono ?_); rintro e w' ⟨rfl, rfl⟩) | (go_at_call 10; (with_reducible refine (V2.out _).mono ?_); rintro e w' ⟨rfl, rfl⟩) | (go_at_call 10; (with_reducible refine (V3.out _).mono ?_); rintro e w' ⟨rfl, rfl⟩))
                go_round
                case rel => exact ⟨k + 1, by go_num, by omega⟩
                case measure => simp [intOf]; omega
          · obtain rfl : k = n := by omega
            go_wp2
            go_ret
            exact ⟨rfl, belows HB2.out (below_drewN _ _) HB2.out.size⟩
  · have HN := hid (New_no (hl0 _ hB0) hs he)
    obtain ⟨k, hk⟩ : ∃ k, Hi.err l = k := ⟨_, rfl⟩
    rw [hk] at HN he
    have hne : (k != 0) = true := by simpa using he
    obtain ⟨W0, hW0⟩ : ∃ W0, W0 = w.alloc (.cells #[.int .i64 pa, .int .i64 pb, .int .i64 ps] 24) := ⟨_, rfl⟩
    have HW0 := hid hW0
    rw [← hW0] at HN HB0
    clear hl hs hk he hl0 hB0 hbx hW0 HBX
    go_enter Try.func5, Try.ntmps5
    go_wp2_with fail
    rw [← HW0.out]
    refine HN.out.mono ?_
    rintro e w1 ⟨rfl, hb1⟩
    have HB1 := hid (belows HB0.out hb1 HB0.out.size)
    clear hb1 HN HW0
    go_wp2_with fail
    refine (live_any w1).mono ?_
    rintro e w2 ⟨rfl, hb2⟩
    have HB2 := hid (belows HB1.out hb2 HB1.out.size)
    clear hb2 HB1
    go_wp2
    go_ret
    exact ⟨rfl, HB2.out⟩
end Go.Proofs.Ythjcnlgebkaonaa
namespace Go.Proofs.Ythjcnlgebkaonaa
open Go.ChangeShapes Go.WideShapes Go.ChangeAt Go.RowKit Go.WideMaps Go.WideElems

set_option maxRecDepth 100000
section
variable {H : Type} {enc : TypeId × Value → H}
theorem weights_allT {P : Program} {e : TypeId} : ∀ {ds : List (DataW H)} {d : DataW H}, d ∈ ds → (DataW.weightsAll P e ds).all (· ≤ reachBytes) = true → (d.weights P e).all (· ≤ reachBytes) = true
  | [], _, h, _ => by cases h
  | x :: r, d, h, hw => by
    simp only [DataW.weightsAll, List.all_append, Bool.and_eq_true] at hw
    rcases List.mem_cons.1 h with rfl | h
    · exact hw.1
    · exact weights_allT h hw.2
theorem bulk_pos (d : DataW H) : 1 ≤ Rows.uptoBulk d := by
  cases d with
  | lit l => cases l <;> simp [Rows.uptoBulk]
  | _ => simp [Rows.uptoBulk]
theorem bulk_len : ∀ l : List (DataW H), l.length ≤ Rows.uptoBulkAll l
  | [] => by simp [Rows.uptoBulkAll]
  | x :: r => by have h1 := bulk_pos x; have h2 := bulk_len r; simp only [Rows.uptoBulkAll, List.length_cons]; omega
theorem bulk_mem : ∀ {l : List (DataW H)} {d : DataW H}, d ∈ l → Rows.uptoBulk d ≤ Rows.uptoBulkAll l
  | [], _, h => by cases h
  | x :: r, d, h => by
    simp only [Rows.uptoBulkAll]
    rcases List.mem_cons.1 h with rfl | h
    · omega
    · have := bulk_mem h; omega
theorem A.cellsStr : Try.prog.cellsOf 9 = 1 := by kernel_rfl
set_option maxRecDepth 100000 in
/-- A list of things of so many cells each, in a cell. -/
theorem list_cell {α : Type} {W : World} {n : Nat} {k : Value} {y : DataW H × List MemPlace} {tS tE : TypeId} {s by_ : Nat} (G : DataW H → List Value → α → Prop) (hG : ∀ d cs x, G d cs x → cs.length = s) (hs : 0 < s)
    (hu : Try.prog.underlying tS = some (.slice tE)) (hco : Try.prog.cellsOf tE = s) (hby : Try.prog.bytesOf tE = by_) (hb0 : 0 < by_)
    (he : ∀ (m : Nat) (cs : List Value) (z : DataW H × List MemPlace), DataW.trod enc Try.prog W 0 (fun _ => true) true m tE cs = some z → (z.1.weights Try.prog tE).all (· ≤ reachBytes) = true → ∃ x, G z.1 cs x)
    (h : DataW.trod enc Try.prog W 0 (fun _ => true) true n tS [k] = some y) (hw : (y.1.weights Try.prog tS).all (· ≤ reachBytes) = true) :
    ∃ (xs : List α) (rs : List (List Value)), rs.length = xs.length ∧ (∀ (i : Nat) (r : List Value) (x : α), rs[i]? = some r → xs[i]? = some x → ∃ d, G d r x ∧ Rows.uptoBulk d ≤ Rows.uptoBulk y.1) ∧ Kit.IsS s W k xs.length rs.flatten ∧ xs.length * by_ ≤ 140737488351232 ∧ xs.length ≤ Rows.uptoBulk y.1 := by
  rcases DataW.trod_slice hu h with ⟨hcs, rfl⟩ | ⟨a, len, cap, elems, rest, m, -, hcs, rfl, -, hl, hm, hel, hcells, hsp, -⟩
  · obtain rfl : k = .slice none 0 0 := by simpa using hcs
    exact ⟨[], [], rfl, fun i r x hr => by simp at hr, ⟨by simp, by simp, .inl ⟨rfl, none, 0, rfl⟩⟩, by simp, by simp⟩
  · obtain rfl : k = .slice (some a) len cap := by simpa using hcs
    simp only [DataW.weights, hu, List.all_cons, List.all_append, Bool.and_eq_true, decide_eq_true_eq, hby] at hw
    have hcap : len * by_ ≤ 140737488351232 := by
      have h1 := hw.1
      simp only [List.length_map, reachBytes] at h1
      rw [hel] at h1
      exact Nat.le_trans (Nat.mul_le_mul_right _ (Nat.le_add_right _ _)) h1
    have hbl : len ≤ Rows.uptoBulk (.slice (elems.map (·.1)) (rest.map (·.1)) : DataW H) := by
      have := bulk_len (elems.map (·.1))
      rw [List.length_map, hel] at this
      simp only [Rows.uptoBulk]
      omega
    have each : ∀ i, ∃ q : List Value × Option α, i < len → q.1.length = s ∧ (∀ j, j < s → W.cell? ((a.add (i * s)).add j) = q.1[j]?) ∧ ∃ x d, q.2 = some x ∧ G d q.1 x ∧ Rows.uptoBulk d ≤ Rows.uptoBulk (.slice (elems.map (·.1)) (rest.map (·.1)) : DataW H) := by
      intro i
      by_cases hi : i < len
      · have h1 := hcells i hi
        rw [hco, List.getElem?_eq_getElem (by omega), Option.bind_eq_some_iff] at h1
        obtain ⟨cs, hcs', htr⟩ := h1
        have hmem : elems[i].1 ∈ elems.map (·.1) := List.mem_map_of_mem (List.getElem_mem _)
        obtain ⟨x, hx⟩ := he _ _ _ htr (weights_allT hmem hw.2.1)
        refine ⟨(cs, some x), fun _ => ⟨hG _ _ _ hx, fun j hj => (World.cells?_some hcs').2.2 j hj, x, _, rfl, hx, ?_⟩⟩
        have := bulk_mem hmem
        simp only [Rows.uptoBulk]
        omega
      · exact ⟨([], none), fun h => absurd h hi⟩
    obtain ⟨f, hfx⟩ := Classical.skolem.1 each
    have hxs : ∃ xs : List α, xs.length = len ∧ ∀ i, i < len → xs[i]? = (f i).2 := by
      have : ∀ m, m ≤ len → ∃ xs : List α, xs.length = m ∧ ∀ i, i < m → xs[i]? = (f i).2 := by
        intro m
        induction m with
        | zero => intro _; exact ⟨[], rfl, fun i hi => by omega⟩
        | succ m ih =>
          intro hm
          obtain ⟨xs, h1, h2⟩ := ih (by omega)
          obtain ⟨-, -, x, d, hx, -⟩ := hfx m (by omega)
          refine ⟨xs ++ [x], by simp [h1], fun i hi => ?_⟩
          by_cases e : i < m
          · rw [List.getElem?_append_left (by omega)]; exact h2 i e
          · obtain rfl : i = m := by omega
            rw [List.getElem?_append_right (by omega), h1, Nat.sub_self, hx]
            rfl
      exact this len (Nat.le_refl _)
    obtain ⟨xs, hxl, hxe⟩ := hxs
    have hrl : ∀ r ∈ (List.range len).map (fun i => (f i).1), r.length = s := by
      intro r hr
      obtain ⟨i, hi, rfl⟩ := List.mem_map.1 hr
      exact (hfx i (List.mem_range.1 hi)).1
    have hfl : ∀ (rs : List (List Value)), (∀ r ∈ rs, r.length = s) → rs.flatten.length = rs.length * s ∧ ∀ i r, rs[i]? = some r → ∀ j, j < s → rs.flatten[i * s + j]? = r[j]? := by
      intro rs
      induction rs with
      | nil => intro _; exact ⟨by simp, fun i r hr => by simp at hr⟩
      | cons r0 rs ih =>
        intro hr
        obtain ⟨h1, h2⟩ := ih (fun r h => hr r (List.mem_cons_of_mem _ h))
        have h0 := hr r0 (by simp)
        refine ⟨by rw [List.flatten_cons, List.length_append, h0, h1, List.length_cons, Nat.succ_mul]; omega, fun i r hi j hj => ?_⟩
        match i, hi with
        | 0, hi =>
          simp at hi
          subst hi
          rw [List.flatten_cons, List.getElem?_append_left (by omega)]
          simp
        | i + 1, hi =>
          rw [List.flatten_cons, List.getElem?_append_right (by rw [h0, Nat.succ_mul]; omega), h0, ← h2 i r (by simpa using hi) j hj]
          congr 1
          rw [Nat.succ_mul]
          omega
    obtain ⟨hfl1, hfl2⟩ := hfl _ hrl
    have hrlen : ((List.range len).map (fun i => (f i).1)).length = len := by simp
    refine ⟨xs, (List.range len).map (fun i => (f i).1), by rw [hrlen, hxl], fun i r x hr hx => ?_, ⟨by rw [hfl1, hrlen, hxl], by rw [hxl]; exact Nat.le_trans (Nat.le_trans (Nat.le_mul_of_pos_right _ hb0) hcap) (by decide), ?_⟩, by rw [hxl]; exact hcap, by rw [hxl]; exact hbl⟩
    · have hi : i < len := by
        have := (List.getElem?_eq_some_iff.1 hx).1
        omega
      obtain ⟨-, -, x', d, hx', hg, hb⟩ := hfx i hi
      rw [hxe i hi, hx'] at hx
      cases hx
      rw [List.getElem?_map, List.getElem?_range hi] at hr
      simp only [Option.map_some, Option.some.injEq] at hr
      subst hr
      exact ⟨d, hg, hb⟩
    · by_cases h0 : len = 0
      · exact .inl ⟨by rw [hxl, h0], some a, cap, by rw [h0]⟩
      · obtain ⟨b, o, spot⟩ := a
        have hsp0 : ∃ u, W.cell? (((⟨b, o, spot⟩ : Addr).add (0 * s)).add 0) = some u := by
          obtain ⟨h1, h2, -⟩ := hfx 0 (by omega)
          refine ⟨(f 0).1[0]'(by omega), ?_⟩
          rw [h2 0 hs, List.getElem?_eq_getElem]
        obtain ⟨u0, hsp0⟩ := hsp0
        have hspot : spot = none := by
          have := World.cell?_spot hsp0
          simpa [Addr.add] using this
        subst hspot
        have hat : ∀ i j, ((⟨b, o, none⟩ : Addr).add i).add j = ⟨b, o + (i + j), none⟩ := by
          intro i j
          rw [add_plain, add_plain]; congr 1; omega
        refine .inr ⟨b, o, cap, by rw [hxl], by rw [hxl]; exact hl, ?_, fun i u hi => ?_⟩
        · have := World.block_lt_of_cell? W _ hsp0
          simpa [Addr.add] using this
        · have hil : i < len * s := by
            have := (List.getElem?_eq_some_iff.1 hi).1
            rw [hfl1, hrlen] at this
            exact this
          have hq : i / s < len := Nat.div_lt_of_lt_mul (by rw [Nat.mul_comm]; exact hil)
          have hr : i % s < s := Nat.mod_lt _ hs
          have e : i / s * s + i % s = i := by rw [Nat.mul_comm]; exact Nat.div_add_mod i s
          have hget : ((List.range len).map (fun i => (f i).1))[i / s]? = some (f (i / s)).1 := by rw [List.getElem?_map, List.getElem?_range hq]; rfl
          have h1 := hfl2 (i / s) _ hget (i % s) hr
          rw [e] at h1
          have h2 := (hfx (i / s) hq).2.1 (i % s) hr
          rw [hat, e] at h2
          rw [h2, ← h1]
          exact hi
theorem rs_map {α : Type} {f : α → List Value} {xs : List α} {rs : List (List Value)} (hl : rs.length = xs.length) (h : ∀ (i : Nat) (r : List Value) (x : α), rs[i]? = some r → xs[i]? = some x → r = f x) : rs.flatten = xs.flatMap f := by
  have e : rs = xs.map f := by
    apply List.ext_getElem?
    intro i
    rw [List.getElem?_map]
    by_cases hi : i < xs.length
    · have h1 : rs[i]? = some rs[i] := List.getElem?_eq_getElem (by omega)
      have h2 : xs[i]? = some xs[i] := List.getElem?_eq_getElem hi
      rw [h1, h2, h i _ _ h1 h2]
      rfl
    · rw [List.getElem?_eq_none (by omega), List.getElem?_eq_none (by omega)]
      rfl
  rw [e, List.flatMap_def]
theorem i64_of {a : Int} (h : (Lit.int .i64 a).wf = true) : -9223372036854775808 ≤ a ∧ a ≤ 9223372036854775807 := by
  simp [Lit.wf, IntKind.min, IntKind.max, IntKind.signed, IntKind.bits] at h
  omega
theorem A.cellsInt : Try.prog.cellsOf 3 = 1 := by kernel_rfl
theorem ln_cells {W : World} {n : Nat} {cs : List Value} {y : DataW H × List MemPlace} (h : DataW.trod enc Try.prog W 0 (fun _ => true) true n 56 cs = some y) (hw : (y.1.weights Try.prog 56).all (· ≤ reachBytes) = true) :
    ∃ x : Hi.Ln, cs = lnL x ∧ x.1.size ≤ maxLen ∧ x.2.size ≤ maxLen := by
  obtain ⟨xs, m, -, hy, hl, hlen, hf⟩ := DataW.trod_struct Try.underlying56 h
  have hl3 : cs.length = 2 := hl.trans (by kernel_rfl)
  have hx3 : xs.length = 2 := hlen
  match xs, hx3 with
  | [x0, x1], _ =>
  match cs, hl3 with
  | [k0, k1], _ =>
  obtain ⟨a, e0, g0, -⟩ := DataW.trod_string Try.underlying9 (hf 0 _ rfl)
  obtain ⟨b, e1, g1, -⟩ := DataW.trod_string Try.underlying9 (hf 1 _ rfl)
  have q0 : ([k0, k1].drop 0).take (Try.prog.cellsOf 9) = [.string a] := e0
  have q1 : ([k0, k1].drop 1).take (Try.prog.cellsOf 9) = [.string b] := e1
  clear e0 e1 hf
  rw [A.cellsStr] at q0 q1
  simp only [List.drop_zero, List.take_succ_cons, List.take_zero, List.cons.injEq, and_true, List.drop_succ_cons] at q0 q1
  subst q0 q1
  subst g0 g1 hy
  refine ⟨(a, b), rfl, ?_⟩
  simp [DataW.weights, Try.underlying56, DataW.weightsEach, reachBytes] at hw
  have h1 : a.size ≤ 140737488351232 := of_decide_eq_true hw.1
  have h2 : b.size ≤ 140737488351232 := of_decide_eq_true hw.2
  exact ⟨show a.size ≤ _ by unfold maxLen; omega, show b.size ≤ _ by unfold maxLen; omega⟩
theorem open_linesb {W : World} {v : Value} {d : DataW H} {ps : List MemPlace} {base : Nat}
    (hok : Value.okWide Try.prog W .any base 22 v) (h : DataW.Trod enc Try.prog W 0 (fun _ => true) true 22 v d ps) (hw : (d.weights Try.prog 22).all (· ≤ reachBytes) = true) :
    ∃ l : List Hi.Ln, Kit.IsS 2 W v l.length (l.flatMap lnL) ∧ (∀ x ∈ l, x.1.size ≤ maxLen ∧ x.2.size ≤ maxLen) ∧ l.length * 32 ≤ 140737488351232 := by
  obtain ⟨a0, len, cap, rfl⟩ := okWide_slice Try.underlying22 hok
  obtain ⟨fuel, hf⟩ := h
  obtain ⟨xs, rs, h1, h2, h3, h4, h5⟩ := list_cell (s := 2) (by_ := 32) (tE := 56) (fun (_ : DataW H) cs (x : Hi.Ln) => cs = lnL x ∧ x.1.size ≤ maxLen ∧ x.2.size ≤ maxLen) (fun _ _ x h => by rw [h.1]; rfl) (by decide) Try.underlying22 (by kernel_rfl) (by kernel_rfl) (by decide) (fun m cs z hz hw => ln_cells hz hw) (y := (d, ps)) hf hw
  refine ⟨xs, ?_, fun c hc => ?_, h4⟩
  · rw [← rs_map h1 (fun i r x hr hx => by obtain ⟨d, hd, -⟩ := h2 i r x hr hx; exact hd.1)]
    exact h3
  · obtain ⟨i, hi⟩ := List.mem_iff_getElem?.1 hc
    have hlt : i < rs.length := by rw [h1]; exact (List.getElem?_eq_some_iff.1 hi).1
    obtain ⟨d, hd, -⟩ := h2 i _ c (List.getElem?_eq_getElem hlt) hi
    exact hd.2
theorem open_lines {W : World} {v : Value} {d : DataW H} {ps : List MemPlace} {base : Nat}
    (hok : Value.okWide Try.prog W .any base 22 v) (h : DataW.Trod enc Try.prog W 0 (fun _ => true) true 22 v d ps) (hw : (d.weights Try.prog 22).all (· ≤ reachBytes) = true) :
    ∃ l : List Hi.Ln, Kit.IsS 2 W v l.length (l.flatMap lnL) ∧ (∀ x ∈ l, x.1.size ≤ maxLen ∧ x.2.size ≤ maxLen) := by
  obtain ⟨l, h1, h2, -⟩ := open_linesb hok h hw
  exact ⟨l, h1, h2⟩
theorem open_pair {W : World} {base : Nat} {v : Value} {d : DataW H} {p : List MemPlace} (hv : Value.okWide Try.prog W .any base 24 v) (h : DataW.Trod enc Try.prog W 0 (fun _ => true) true 24 v d p) (_hw : (d.weights Try.prog 24).all (· ≤ reachBytes) = true) :
    ∃ (a b s : Int), v = .agg #[.int .i64 a, .int .i64 b, .int .i64 s] ∧ (-9223372036854775808 ≤ a ∧ a ≤ 9223372036854775807) ∧ (-9223372036854775808 ≤ b ∧ b ≤ 9223372036854775807) ∧ -9223372036854775808 ≤ s ∧ s ≤ 9223372036854775807 := by
  obtain ⟨cs, rfl, hsz⟩ := okWide_struct Try.underlying24 hv
  obtain ⟨fuel, hf0⟩ := h
  obtain ⟨xs, m, -, hy, hl, hlen, hf⟩ := DataW.trod_struct Try.underlying24 hf0
  have hl3 : cs.toList.length = 3 := hl.trans (by kernel_rfl)
  have hx3 : xs.length = 3 := hlen
  obtain ⟨cs⟩ := cs
  match xs, hx3 with
  | [x0, x1, x2], _ =>
  match cs, hl3 with
  | [k0, k1, k2], _ =>
  obtain ⟨a, e0, g0, w0⟩ := DataW.trod_int Try.underlying3 (hf 0 _ rfl)
  obtain ⟨b, e1, g1, w1⟩ := DataW.trod_int Try.underlying3 (hf 1 _ rfl)
  obtain ⟨c, e2, g2, w2⟩ := DataW.trod_int Try.underlying3 (hf 2 _ rfl)
  have q0 : ([k0, k1, k2].drop 0).take (Try.prog.cellsOf 3) = [.int .i64 a] := e0
  have q1 : ([k0, k1, k2].drop 1).take (Try.prog.cellsOf 3) = [.int .i64 b] := e1
  have q2 : ([k0, k1, k2].drop 2).take (Try.prog.cellsOf 3) = [.int .i64 c] := e2
  clear e0 e1 e2 hf
  rw [A.cellsInt] at q0 q1 q2
  simp only [List.drop_zero, List.take_succ_cons, List.take_zero, List.cons.injEq, and_true, List.drop_succ_cons] at q0 q1 q2
  subst q0 q1 q2
  exact ⟨a, b, c, rfl, i64_of w0, i64_of w1, i64_of w2⟩
theorem weights_eachT {P : Program} : ∀ {ts : List TypeId} {ds : List (DataW H)} {j : Nat} {t : TypeId} {d : DataW H}, ts[j]? = some t → ds[j]? = some d → (DataW.weightsEach P ts ds).all (· ≤ reachBytes) = true → (d.weights P t).all (· ≤ reachBytes) = true
  | [], _, _, _, _, h, _, _ => by simp at h
  | _, [], _, _, _, _, h, _ => by simp at h
  | t :: ts, d :: ds, 0, _, _, h1, h2, h => by
    simp only [List.getElem?_cons_zero, Option.some.injEq] at h1 h2
    subst h1 h2
    simp only [DataW.weightsEach, List.all_append, Bool.and_eq_true] at h
    exact h.1
  | t :: ts, d :: ds, j + 1, _, _, h1, h2, h => by
    simp only [DataW.weightsEach, List.all_append, Bool.and_eq_true] at h
    exact weights_eachT (j := j) (by simpa using h1) (by simpa using h2) h.2
end
end Go.Proofs.Ythjcnlgebkaonaa
namespace Go.Proofs.Ythjcnlgebkaonaa.Kit
open Go Go.RowKit Go.ChangeShapes Go.WideShapes Go.ChangeAt

section
variable {H : Type} {enc : TypeId × Value → H} {P : Program}
/-- Arguments read in a later world as they did. -/
theorem trodAll_later (hl : laidOutB P = true) {W W' : World} (hb : Below W.heap.size W W') (sp : Nat → Bool) :
    ∀ {ts : List TypeId} {vs : List Value} {ds : List (DataW H)} {ps : List MemPlace}, (∀ t ∈ ts, P.readableRec t = true ∧ t < P.types.size) → DataW.TrodAll enc P W 0 (fun _ => true) true ts vs ds ps →
      (∀ x ∈ ps, x.block < W.heap.size) → (∀ x ∈ ps, sp x.block = true) → DataW.TrodAll enc P W' 0 sp true ts vs ds ps
  | [], vs, ds, ps, _, h, _, _ => by
    obtain ⟨rfl, rfl, rfl⟩ := trodAll_nil h
    exact trodAll_mk0
  | t :: ts, vs, ds, ps, hr, h, hlt, hsp => by
    obtain ⟨v, vs', d, ds', p, q, rfl, rfl, rfl, h0, h1⟩ := trodAll_cons h
    exact trodAll_cons_mk (WideElems.Trod_stays hl (hr t (by simp)).1 (hr t (by simp)).2 h0 (fun x hx => hb.same (hlt x (by simp [hx]))) (fun x hx => hsp x (by simp [hx])))
      (trodAll_later hl hb sp (fun t ht => hr t (by simp [ht])) h1 (fun x hx => hlt x (by simp [hx])) (fun x hx => hsp x (by simp [hx])))
/-- A law's answer: true; all that it was handed reads as it did. -/
theorem law_post {f : Func} {s : ChangeSpec} {apart fresh handsOn again : Bool} {W W' : World} {args : Array Value} {ds gs : List (DataW H)} {before : List MemPlace} {tb : TypeId}
    (hv : s.vars = []) (hr : f.resultTypes = #[tb]) (htb : P.underlying tb = some .bool) (hl : laidOutB P = true) (hrd : ∀ t ∈ f.params.toList, P.readableRec t = true ∧ t < P.types.size)
    (hW : DataW.Whole enc P f.params.toList s.vars apart W args.toList ds gs before)
    (hfn : s.fn H (ds ++ gs) = { results := [.lit (.bool true)], args := ds }) (hb : Below W.heap.size W W') :
    s.post enc P f apart fresh handsOn again W args (.bool true) W' := by
  have hlt : ∀ p ∈ before, p.block < W.heap.size := fun p hp => hW.lt p hp
  have hW' := hW
  obtain ⟨p, q, hA, hV, rfl, hfz, hnd⟩ := hW
  rw [hv] at hV
  obtain ⟨rfl, rfl⟩ := trodVars_none hV
  simp only [List.append_nil] at hlt hfz hnd hW' hfn ⊢
  have hres : ∀ (b : Nat) (sp : Nat → Bool) (hd : Bool), DataW.TrodAll enc P W' b sp hd f.resultTypes.toList ((Value.bool true).resultList f.resultTypes.size) (s.fn H ds).results [] := by
    intro b sp hd
    rw [hr, hfn]
    exact trodAll_cons_mk (shut_bool htb _) trodAll_mk0
  have hargs : ∀ sp : Nat → Bool, (∀ x ∈ p, sp x.block = true) → DataW.TrodAll enc P W' 0 sp true f.params.toList args.toList (s.fn H ds).args p := by
    intro sp hsp
    rw [hfn]
    exact trodAll_later hl hb sp hrd hA hlt hsp
  have hvs : ∀ sp : Nat → Bool, DataW.TrodVars enc P W' sp s.vars (s.fn H ds).vars [] := by
    intro sp
    rw [hv, hfn]
    rfl
  have hold : ∀ x ∈ p, (fun b => decide (b < W.heap.size)) x.block = true := fun x hx => by simpa using hlt x hx
  refine ⟨ds, [], p, [], p, [], hW', ?_, ?_, ?_, World.keptBut_mono (fun x hx => ⟨hx, .inr (.inl hx)⟩) (hb.frame (· ∈ p)), fun _ => ?_⟩
  · rw [List.append_nil]; exact hres _ _ _
  · rw [List.append_nil]; exact hargs _ hold
  · rw [List.append_nil]; exact hvs _
  · refine ⟨ok_one hr rfl (okWide_bool_mk htb _), _, _, ([] ++ p) ++ [], ⟨[] ++ p, [], trodAll_append (hargs _ (fun _ _ => rfl)) (hres _ _ _), hvs _, rfl, ?_, ?_⟩, ?_⟩
    · intro b off hp
      have hin : MemPlace.cell b off ∈ p := by simpa using hp
      have := hb.frozen (p := ⟨b, off, none⟩) (hlt _ hin)
      rw [this]
      exact hfz b off hin
    · intro ha
      simpa using hnd ha
    · intro x hx _
      simpa using hx
end
end Go.Proofs.Ythjcnlgebkaonaa.Kit
namespace Go.Proofs.Ythjcnlgebkaonaa.hierLeastCard
open Go.ChangeShapes Go.WideShapes Go.ChangeAt Go.RowKit
theorem own : ownKnob Try.prog.godebug = none := by kernel_rfl
set_option maxRecDepth 100000 in
theorem contract (H : Type) (enc : TypeId × Value → H) (W : World) (base : Nat) (args : Array Value) (ds gs : List (DataW H)) (before : List MemPlace)
    (hval : ∀ (j : Nat) t v, Try.f5.params[j]? = some t → args[j]? = some v → Value.okWide Try.prog W .any base t v)
    (hW : DataW.Whole enc Try.prog Try.f5.params.toList Rows.hierLeastSpec.vars false W args.toList ds gs before)
    (hsz : (DataW.weightsEach Try.prog (Try.f5.params.toList ++ (OpenSpec.ofChange Rows.hierLeastSpec).bare.plain.varTypes Try.prog) (ds ++ gs)).all (· ≤ reachBytes) = true) :
    Calls Try.prog 5 args W fun e W' => ∃ v, e = .returned v ∧ Rows.hierLeastSpec.post enc Try.prog Try.f5 false true false false W args v W' := by
  have hW' := hW
  obtain ⟨p, q, hA0, hV, rfl, hfz, hnd⟩ := hW
  have hA : DataW.TrodAll enc Try.prog W 0 (fun _ => true) true Try.f5.params.toList args.toList ds p := hA0
  rw [Try.params5] at hA hval hsz
  obtain ⟨v0, vs0, d0, ds0, p0, q0, hargs, rfl, rfl, h0, r0⟩ := trodAll_cons hA
  obtain ⟨v1, vs1, d1, ds1, p1, q1, rfl, rfl, rfl, h1, r1⟩ := trodAll_cons r0
  obtain ⟨rfl, rfl, rfl⟩ := trodAll_nil r1
  obtain rfl : args = #[v0, v1] := by cases args; simp_all
  obtain ⟨rfl, rfl⟩ := trodVars_none hV
  obtain ⟨x0, wx0, wg0⟩ := open_lines (hval 0 22 v0 rfl rfl) h0 (weights_eachT (j := 0) (t := 22) (d := d0) rfl rfl hsz)
  obtain ⟨pa, pb, ps, rfl, wpa, wpb, wps⟩ := open_pair (hval 1 24 v1 rfl rfl) h1 (weights_eachT (j := 1) (t := 24) (d := d1) rfl rfl hsz)
  refine (least_law wx0 wg0 pa pb ps).mono fun e W' ⟨he, hb⟩ => ?_
  subst he
  exact ⟨_, rfl, Kit.law_post rfl rfl Try.underlying4 (by kernel_rfl) (by decide +kernel) hW' rfl hb⟩
theorem reads (os : Os) {H : Type} (enc : TypeId × Value → H) : ∃ places, DataW.whole enc Try.prog ((World.holding Try.prog os ⟨#[], #[], []⟩).forCall (fun _ _ => 0) ⟨#[], #[.slice none 0 0, .agg #[.int .i64 0, .int .i64 0, .int .i64 0]], []⟩).memory Try.f5.params.toList Rows.hierLeastSpec.vars false (#[.slice none 0 0, .agg #[.int .i64 0, .int .i64 0, .int .i64 0]] : Array Value).toList 8 = some ([.nil, .agg [.lit (.int .i64 0), .lit (.int .i64 0), .lit (.int .i64 0)]], [], places) :=
  ⟨[], by kernel_rfl⟩
theorem laid_met (os : Os) : laidMet Try.prog Rows.hierLeastRow.laid ((World.holding Try.prog os ⟨#[], #[], []⟩).forCall (fun _ _ => 0) ⟨#[], #[.slice none 0 0, .agg #[.int .i64 0, .int .i64 0, .int .i64 0]], []⟩).memory :=
  laidMet_of_run' 8 (by kernel_rfl) (by kernel_rfl)
set_option maxRecDepth 100000 in
theorem lifted (os : Os) (started : os.Started) (H : Type) (enc : TypeId × Value → H) (F : Stop.Interp) :
    ReturnsInHanded {} Try.checked os 5 .any ((OpenSpec.ofChange Rows.hierLeastSpec).preRow enc Try.prog Try.f5 Rows.hierLeastRow.domain false Rows.hierLeastRow.laid) (((OpenSpec.ofChange Rows.hierLeastSpec).at F).post enc Try.prog Try.f5 false true false false) := by
  obtain ⟨places, hx⟩ := reads os enc
  refine returnsInHanded_of_row (C := Try.checked) (s := (OpenSpec.ofChange Rows.hierLeastSpec)) own started (by kernel_rfl) Try.func5
    (witness_row_at (enc := enc) (C := Try.checked) false (World.holding Try.prog os ⟨#[], #[], []⟩) #[.slice none 0 0, .agg #[.int .i64 0, .int .i64 0, .int .i64 0]] rfl (by kernel_rfl) (by kernel_rfl) (by kernel_rfl)
      (OpenSpec.preRow_of_cond 8 hx (by kernel_rfl) (fun k hk => by cases hk) (by kernel_rfl) (laid_met os))) ?_
  intro W base args ds gs before hval hW _ _ hsz _ _ _
  exact contract H enc W base args ds gs before hval hW hsz
theorem proved : Rows.HierLeastSaid :=
  OpenClaim.holds_of_cond 5 Try.f5 rfl rfl rfl rfl rfl rfl rfl ⟨rfl, rfl, rfl, rfl, rfl⟩ rfl rfl rfl rfl rfl (by kernel_rfl) Try.func5 (by kernel_rfl)
    (of_decide_eq_true (by kernel_rfl)) (by unfold Func.isWrapper; first | (rw [if_pos (by decide +kernel)]; kernel_rfl) | (rw [if_neg (by decide +kernel)]; exact ⟨rfl, rfl⟩))
    (fun os started H enc _ F => by rw [OpenClaim.pre_eq_preRow]; exact lifted os started H enc F)
end Go.Proofs.Ythjcnlgebkaonaa.hierLeastCard
