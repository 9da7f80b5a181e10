/- HeapDoes is true for every limit and every list of operations, without a condition. -/
import Derived.Test.YthembnakeikmeaaZD2
import Derived.Deep.Upon
import Derived.Test.YthembnakeikmeaaRows
import Derived.ProofKit
import Derived.OpenShut
import Derived.ChangeSlices
import Derived.Deep.RegionHeld3
import Derived.Deep.DeepHandedRow
import Derived.Lib.LaidTab
namespace Go.Proofs.Ythembnakeikmeaa
open Go Go.RowKit

theorem src_none2 (c : Nat) (w : World) : Src Try.prog 2 31 (.slice none 0 c) 0 [] w :=
  ⟨.inl ⟨_, Try.underlying31⟩, fun _ => rfl, rfl, rfl, rfl, fun u hu => by cases hu⟩
/-- A copy of types that are read. -/
theorem wpList_types {w : World} {ops : Array Oper} {rest : List Oper} {o : Oper} {a : Act} {Q : Exit → Act → World → Prop} (hgd : o.guard = none) (s x : Operand)
    (hop : o.op = Op.call { callee := Callee.builtin Builtin.append, args := #[s, x], argTypes := #[31, 31] })
    (hs : a.eval s = .slice none 0 0) (xv : Value) (ts : List Hp.Ty) (hx : a.eval x = xv) (hr : Kit.IsS 2 w xv ts.length (ts.flatMap tL)) (hb : ts.length * 24 ≤ 140737488355328)
    (h : ∀ v' w', w'.ownsRow w.heap.size 33 2 v' ts.length (ts.flatMap tL) → Below w.heap.size w w' → wpList Try.prog ops Q rest (a.put o.dst v') w') : wpList Try.prog ops Q (o :: rest) a w := by
  obtain ⟨i0, hi, hz0, hz1, hz2⟩ := info_parts infoT
  have some' : ∀ ad c, xv = .slice (some ad) ts.length c → (∀ j u, (ts.flatMap tL)[j]? = some u → w.cell? (ad.add j) = some u) → wpList Try.prog ops Q (o :: rest) a w := fun ad c he hc => by
    subst he
    refine wpList_append_own_at w hgd s x 31 hop w.heap.size 33 i0 _ 2 24 Try.underlying31 hi hz0 hz1 hz2 rfl (by decide) (.slice none 0 0) 0 [] hs ⟨rfl, .inl ⟨rfl, rfl⟩⟩ ad ts.length c (ts.flatMap tL) hx hr.1 hc (onesTL ts) (by unfold maxLen; omega) (by omega) (Nat.le_refl _) ?_
    intro v1 w1 ho hg _ _
    rw [Nat.zero_add, List.nil_append] at ho
    exact h v1 w1 ho (Kit.below_grown (Below.refl _ _) hg (Nat.le_refl _) (fun k hk => by simp [Value.ownBlock] at hk))
  rcases hr.2.2 with ⟨h0, ad, c, he⟩ | ⟨b, ofs, c, he, -, -, hc⟩
  · have hn : ts = [] := List.eq_nil_of_length_eq_zero h0
    subst hn
    cases ad with
    | some ad => exact some' ad c he (fun j u hj => by simp at hj)
    | none =>
      subst he
      refine wpList_plain hgd fun K hK => ?_
      have hr' := run_append_nothing (P := Try.prog) w 31 31 o.type 33 i0 Try.underlying31 hi none 0 0 (Nat.le_refl _) (.slice none 0 c) (by rw [hz1]; exact src_none2 c w)
      unfold Oper.wp execOp
      simp only [hop, resolve, invoke, builtin, Sem.run_bind, Sem.run_pure, Result.andThen_ok, List.map_toArray, List.map_cons, List.map_nil, hs, hx, hr']
      exact hK _ _ (h _ _ ⟨rfl, .inl ⟨rfl, rfl⟩⟩ (Below.refl _ _))
  · exact some' _ c he (fun j u hj => by rw [Go.WideShapes.add_plain]; exact hc j u hj)
/-- The first values of types. -/
def zerosOf (ts : List Hp.Ty) : List Hp.Vl := ts.map fun t => (zeroOf t).getD Hp.V0
theorem zerosOf_snoc {ts : List Hp.Ty} {k : Nat} {t : Hp.Ty} {z : Hp.Vl} (h : ts[k]? = some t) (hz : zeroOf t = some z) : zerosOf (ts.take (k + 1)) = zerosOf (ts.take k) ++ [z] := by
  unfold zerosOf
  rw [List.take_add_one, h]
  simp [hz]
theorem zerosOf_len (ts : List Hp.Ty) : (zerosOf ts).length = ts.length := by simp [zerosOf]
set_option maxRecDepth 100000 in
set_option maxHeartbeats 2000000 in
theorem robject_any {w : World} {base : Nat} {F : Nat → Prop} {rb : Nat} {s : Hp.Hs} {rv : Value} {rs : List (List Value)} (h : RefR w base F rb s rv rs) (ok : s.Ok) (hF : ∀ i, F i → i < w.heap.size) (c : Int) (ts : List Hp.Ty) (v : Value) (hv : Kit.IsS 2 w v ts.length (ts.flatMap tL)) (hts : ts.length * 24 ≤ 140737488355328) :
    Calls Try.prog 27 #[.pointer (some ⟨rb, 0, none⟩), .int .i64 c, v] w (ROut base F rb rv (s.obj c ts) w) := by
  obtain ⟨out, ho⟩ : ∃ out, out = s.obj c ts := ⟨_, rfl⟩
  rw [← ho]
  unfold Hp.Hs.obj at ho
  unfold ROut
  have hl := l_small ok
  have hbase : base ≤ w.heap.size := by have := h.lb; have := (ref_box h).2.2; omega
  have HZ := hid fun t W => rzero_any t W
  have HRw := hid (fun X (b : Below w.heap.size w X) => RWent.start b (RWent.refl (h.below b)))
  have HU := hid (fun (W : World) (b : Below w.heap.size w W) d os => Calls.regrown_of (d := d) (os := os) (w := W) (rused_any ((h.below b).below (below_regrown W d os)) ok))
  obtain ⟨x0, x1, hb⟩ := ref_box h
  have hus := ok.used
  have hlm := ok.lim
  have HRef := hid (fun X (b : Below w.heap.size w X) => h.below b)
  have HFF := hid hF
  have HOk := hid ok
  obtain ⟨ra, rc, hrv⟩ := own_form h.row
  have HRv := hid hrv
  obtain ⟨va, vcap, rfl⟩ := hv.len
  have HV := hid (fun X (b : Below w.heap.size w X) => hv.below b (Nat.le_refl _))
  have hvl := hv.2.1
  obtain ⟨i0, hi, hz0, hz1, hz2⟩ := info_parts infoV
  obtain ⟨i9, hi9, hz09, hz19, hz29⟩ := info_parts infoTh
  have HO := hid ho
  have HHv := hid hv
  obtain ⟨m, hm⟩ : ∃ m, m = ts.length := ⟨_, rfl⟩
  have HM := hid hm
  clear ho h ok hF hrv hv
  rw [← hm] at hvl hts HV HHv
  clear hm
  go_enter Try.func27, Try.ntmps27
  rw [← HM.out]
  go_wp2_with (at_builtin; refine wpList_types rfl (.const (.slice none 0 0)) (.tmp 13) rfl rfl (.slice va m vcap) ts rfl (by rw [← HM.out]; exact HHv.out) (by rw [← HM.out]; exact hts) ?_; intro v1 w1 ho1 hb1; rw [← HM.out] at ho1; obtain ⟨ta, tc, rfl⟩ := own_form ho1; have HO1 := hid ho1; have hz1x := hb1.size; clear ho1)
  obtain ⟨W1, hW1⟩ : ∃ W1, W1 = w1.alloc (.cells #[.bool false, .int .i64 c, .int .i64 0, .string ⟨#[]⟩, .slice ta m tc, .slice none 0 0] 85) := ⟨_, rfl⟩
  have F1 : Fill w w1.heap.size (.bool false) (.int .i64 c) (.int .i64 0) (.string ⟨#[]⟩) (.slice ta m tc) (zerosOf (ts.take 0)) (.slice none 0 0) W1 := by
    refine ⟨by rw [hW1]; exact hb1.alloc hz1x _, hz1x, by rw [hW1]; exact BX.new w1 _ _, ⟨rfl, .inl ⟨rfl, rfl⟩⟩⟩
  have O1 : W1.ownsRow w.heap.size 33 2 (.slice ta m tc) m (ts.flatMap tL) := by rw [hW1]; exact HO1.out.alloc _
  have L1 : ∀ k, (Value.slice ta m tc).ownBlock = some k → k < w1.heap.size := fun k hk => Kit.own_lt HO1.out k hk
  obtain ⟨tb, htb⟩ : ∃ tb, tb = w1.heap.size := ⟨_, rfl⟩
  rw [← htb] at F1 L1
  rw [← hW1, ← htb]
  have HF1 := hid F1
  have HOT := hid O1
  have HL1 := hid L1
  clear hW1 htb HO1 hb1 F1 O1 L1 hz1x
  have d0 : Hid (AllZ ts 0) := fun j t hj => absurd hj (by omega)
  go_loopw [9] (fun i wr => ∃ j : Nat, j ≤ m ∧ i = .int .i64 (j : Int) ∧ Hid (AllZ ts j) ∧ ∃ cv, Hid (Fill w tb (.bool false) (.int .i64 c) (.int .i64 0) (.string ⟨#[]⟩) (.slice ta m tc) (zerosOf (ts.take j)) cv wr) ∧ Hid (wr.ownsRow w.heap.size 33 2 (.slice ta m tc) m (ts.flatMap tL))) (fun i _ => m - (intOf i).toNat)
  case atStart => exact ⟨0, by omega, rfl, d0, _, HF1, HOT⟩
  case round =>
    obtain ⟨j, hj, rfl, HAz, cv, HFl, HTy⟩ := hrel
    clear HF1 HOT d0
    have hlo := HFl.out.low
    have hts2 := HFl.out.box.sz
    have hzl : (zerosOf (ts.take j)).length = j := by rw [zerosOf_len, List.length_take]; have := HM.out; omega
    obtain ⟨ca, cc, hcv⟩ := own_form HFl.out.row
    rw [hzl] at hcv
    subst hcv
    by_cases hlt : j < m
    · obtain ⟨t, htk⟩ : ∃ t, ts[j]? = some t := ⟨_, List.getElem?_eq_getElem (by have := HM.out; omega)⟩
      obtain ⟨b, o, cap, hsl, -, hbl2, hxx⟩ := (HV.out _ HFl.out.below).some (by omega)
      obtain ⟨rfl, -, rfl⟩ := Value.slice.inj hsl
      obtain ⟨y0, y1⟩ := tL_at htk
      have y0 := hxx _ _ y0
      have y1 := hxx _ _ y1
      rw [← Nat.add_assoc] at y1
      have i1 : (j : Int) < (m : Int) := by omega
      have HT := hid htk
      have HSz := hid hzl
      cases hz : zeroOf t with
      | none =>
        have HZk0 := HZ.out t
        rw [hz] at HZk0
        unfold tA zV vA at HZk0
        dsimp only [Option.getD_none, Option.isSome_none, Hp.V0] at HZk0
        have HZk := hid HZk0
        have HO2 : Hid (out = (s, 0, 1)) := HO.out.trans (if_pos (.inr ⟨t, List.mem_of_getElem? htk, hz⟩))
        obtain ⟨tk, ts2⟩ := t
        dsimp only at y0 y1 HZk
        clear HZk0 hz hxx hsl htk hzl HZ HU HRef HV HHv
        go_wp2_with fail
        refine (HZk.out _).mono ?_
        rintro e w5 ⟨rfl, hb5⟩
        have hB5 := belows HFl.out.below hb5 HFl.out.below.size
        have hz5 := hB5.size
        go_wp2
        go_ret2
        exact ⟨rv, by rw [HO2.out]; rfl, by rw [HO2.out]; exact HRw.out _ (by repeat' first | with_reducible exact Below.refl _ _ | with_reducible assumption | with_reducible refine belows_drewN ?_ _ | with_reducible refine Below.drew ?_ | with_reducible refine Below.setCell ?_ ?_ _ | with_reducible refine Below.alloc ?_ ?_ _ | omega | (simp; done) | (simp; omega))⟩
      | some z =>
        have HZk0 := HZ.out t
        rw [hz] at HZk0
        unfold tA zV vA at HZk0
        dsimp only [Option.getD_some, Option.isSome_some] at HZk0
        have HZk := hid HZk0
        have HAz2 : Hid (AllZ ts (j + 1)) := fun j' t' hj' ht' => by
          by_cases hjk : j' = j
          · subst hjk
            rw [htk] at ht'
            obtain rfl := Option.some.inj ht'
            rw [hz]
            simp
          · exact HAz.out j' t' (by omega) ht'
        have HSn := hid (zerosOf_snoc htk hz)
        obtain ⟨tk, ts2⟩ := t
        dsimp only at y0 y1 HZk
        clear HZk0 hz hxx hsl htk hzl HZ HU HRef HV HHv
        go_wp2_with fail
        refine (HZk.out _).mono ?_
        rintro e w5 ⟨rfl, hb5⟩
        have hz5 := hb5.size
        have HA5 := hid (HFl.out.next hb5)
        have al5 := (Below.refl _ w5).alloc (Nat.le_refl _) (.cells #[.int .i64 z.k, .int .i64 z.n] 35)
        have HA6 := hid (HA5.out.next al5)
        have HA := hid (HA6.out.next ((Below.refl _ (w5.alloc (.cells #[.int .i64 z.k, .int .i64 z.n] 35))).alloc (Nat.le_refl _) (.cells #[.int .i64 z.k, .int .i64 z.n] 35)))
        have HTy7 := hid (Kit.owns_below (Kit.owns_below (Kit.owns_below HTy.out hb5 (Nat.le_refl _)) al5 (Nat.le_refl _)) ((Below.refl _ (w5.alloc (.cells #[.int .i64 z.k, .int .i64 z.n] 35))).alloc (Nat.le_refl _) (.cells #[.int .i64 z.k, .int .i64 z.n] 35)) (Nat.le_refl _))
        have f5 := HA5.out.box.cell 5
        have g5 := HA6.out.box.cell 5
        have hs5 := HA5.out.box.sz
        simp at f5 g5
        have HRow := hid HA.out.row
        rw [HSz.out] at HRow
        clear al5 hb5
        go_wp2_with (at_builtin; refine wpList_append_own_at _ rfl (.tmp 33) (.tmp 35) 75 rfl (tb + 1) 35 i0 _ 2 16 Try.underlying75 hi hz0 hz1 hz2 rfl (by decide) (.slice ca j cc) j ((zerosOf (ts.take j)).flatMap vL) rfl HRow.out ⟨w5.heap.size + 1, 0, none⟩ 1 1 [.int .i64 z.k, .int .i64 z.n] rfl rfl (by intro j u hj; have := news_list (w5.alloc (.cells #[.int .i64 z.k, .int .i64 z.n] 35)) [.int .i64 z.k, .int .i64 z.n] 35 j u hj; rw [World.size_alloc] at this; exact this) (onesZ z) (by unfold maxLen; omega) (by omega) (by simp only [World.size_alloc]; omega) ?_; intro v1 w1 ho1 hg1 _ hk1; have hp := HA.out.push z hg1 (by rw [HSz.out]; exact ho1); have c1 := (Chg.of_grown (S := fun i => (Value.slice ca j cc).ownBlock = some i) hg1 (fun _ e => e)); have bb := HA.out.box.chg c1 (own_unlike_box HA.out.row HA.out.box (by decide)); have k5 := bb.cell 5; have k6 := bb.frozen 5; simp at k5; obtain ⟨va5, vc5, rfl⟩ := own_form ho1; have HP := hid hp.1; have HTn := hid (owns_chg HTy7.out hp.2 (fun k e1 e2 => by have := HL1.out k e1; omega)); clear hp ho1 hg1 hk1 c1 bb)
        go_roundw
        case rel => exact ⟨j + 1, by omega, by go_num, HAz2, _, hid (by have := HP.out; rw [← HSn.out] at this; exact this), HTn⟩
        case measure => simp [intOf]; omega
    · obtain rfl : j = m := by omega
      have i1 : ¬ ((j : Int) < (j : Int)) := by omega
      have HB := hid HFl.out.below
      have hno := allZ_no (ts := ts) (by rw [← HM.out]; exact HAz.out)
      have hbl := Nat.lt_of_lt_of_le hb HB.out.size
      by_cases h1 : c < 0
      · have HO2 : Hid (out = (s, 0, 1)) := HO.out.trans (if_pos (.inl h1))
        have hd : decide (c < 0) = true := by simpa using h1
        clear HZ HU HRef HV HHv hno hzl
        go_wp2
        go_ret2
        exact ⟨by rw [HO2.out]; rfl, rv, by rw [HO2.out]; exact HRw.out _ HB.out⟩
      · have hd : decide (c < 0) = false := by simpa using h1
        have HO1 := hid (HO.out.trans (if_neg (by rintro (e | e); exact h1 e; exact hno e)))
        have HUU := hid (HU.out wr HB.out)
        have yx := (HB.out.cell (p := ⟨rb, 0, none⟩) hb).trans x0
        have q0 := fun d os => cell_regrown yx d os
        by_cases h3 : (ts.length : Int) < (s.lim : Int) - s.used
        · have HO2 := hid (HO1.out.trans (if_neg (by simpa using h3)))
          rw [← HM.out] at h3
          have hd3 : decide ((s.lim : Int) - s.used ≤ (j : Int)) = false := by simp only [decide_eq_false_iff_not]; omega
          have hj2 : j ≤ 1048576 := by omega
          have hcn : c ≠ -1 := by omega
          have e9 : ts.take j = ts := List.take_of_length_le (by have := HM.out; omega)
          rw [e9] at HFl
          have HT : Hid (RT wr base F [.bool false, .int .i64 c, .int .i64 0, .string ⟨#[]⟩, .slice ta j tc, .slice ca j cc] ⟨c, ts, zerosOf ts⟩) := by
            refine ⟨.slice ta j tc, .slice ca j cc, by simp [thC, thE, hcn, Hp.T0], .inr ⟨hcn, ?_⟩, own_mono HFl.out.row (by omega), fun k e hf => ?_, fun k e hf => ?_⟩
            · show wr.ownsRow base _ 2 (.slice ta j tc) ts.length (ts.flatMap tL)
              rw [← HM.out]
              exact own_mono HTy.out hbase
            · have e1 := Kit.own_base HTy.out k e
              have e2 := HFF.out k hf
              omega
            · have e1 := Kit.own_base HFl.out.row k e
              have e2 := HFF.out k hf
              omega
          have f0 := HFl.out.box.cell 0
          have f1 := HFl.out.box.cell 1
          have f2 := HFl.out.box.cell 2
          have f3 := HFl.out.box.cell 3
          have f4 := HFl.out.box.cell 4
          have f5 := HFl.out.box.cell 5
          simp at f0 f1 f2 f3 f4 f5
          have HRef2 := HRef
          clear HZ HU HRef HV HHv hno hzl h3 h1 e9 hcn yx
          go_wp2_with fail
          refine wp_region_quiet_below (by kernel_rfl) (by kernel_rfl) ?_
          (iterate 10 (go_big_quiet_step (exact HUU.out _ _)))
          refine wpQuiet_nil ?_
          intro W2 hw'
          obtain ⟨⟨dq, osq⟩, hw''⟩ := hw'
          have hbq := below_regrown wr dq osq
          rw [← hw''] at hbq
          clear hw'' HUU q0
          have B2 := belows HB.out hbq HB.out.size
          have f0 := (hbq.cell (p := ⟨tb, 0, none⟩) hts2).trans f0
          have f1 := (hbq.cell (p := ⟨tb, 1, none⟩) hts2).trans f1
          have f2 := (hbq.cell (p := ⟨tb, 2, none⟩) hts2).trans f2
          have f3 := (hbq.cell (p := ⟨tb, 3, none⟩) hts2).trans f3
          have f4 := (hbq.cell (p := ⟨tb, 4, none⟩) hts2).trans f4
          have f5 := (hbq.cell (p := ⟨tb, 5, none⟩) hts2).trans f5
          have HT2 := hid (HT.out.chg (S := fun _ => False) (Chg.of_below hbq) (fun _ _ e => e.elim) (fun _ _ e => e) : RT W2 base F _ _)
          have HR := hid (HRef2.out W2 B2)
          have HOwn := hid (fun X (k : Below W2.heap.size W2 X) => Kit.owns_below HR.out.row k (Nat.le_refl _))
          rw [HRv.out] at HOwn
          have y1 := (B2.cell (p := ⟨rb, 1, none⟩) hb).trans x1
          rw [HRv.out] at y1
          have hbl2 := Nat.lt_of_lt_of_le hb B2.size
          have hbs : base ≤ W2.heap.size := Nat.le_trans hbase B2.size
          have htb2 : tb < W2.heap.size := Nat.lt_of_lt_of_le hts2 hbq.size
          have HFw := hid (fun i (hi : F i) => Nat.lt_of_lt_of_le (HFF.out i hi) B2.size)
          have HB2 := hid B2
          have HLm := hid hlm
          clear HFl x0 x1 HB hbq B2 hbl HRef2 hlm hus
          go_wp2_with fail
          go_region_law (refine Kit.step_append_own rfl (.tmp 54) (.tmp 56) 80 rfl base 85 i9 _ 6 88 Try.underlying80 hi9 hz09 hz19 hz29 rfl (by decide) _ s.l.length rs.flatten rfl (HOwn.out _ (by repeat' first | with_reducible exact Below.refl _ _ | with_reducible assumption | with_reducible refine belows_drewN ?_ _ | with_reducible refine Below.drew ?_ | with_reducible refine Below.setCell ?_ ?_ _ | with_reducible refine Below.alloc ?_ ?_ _ | omega | (simp; done) | (simp; omega))) ⟨W2.heap.size, 0, none⟩ 1 1 [.bool false, .int .i64 c, .int .i64 0, .string ⟨#[]⟩, .slice ta j tc, .slice ca j cc] rfl rfl (by intro j u hj; exact news_list W2 _ _ j u hj) ones6 (by unfold maxLen; omega) (by omega) (by first | omega | (simp; omega)) ?_; intro v2 w2 ho2 hg2 hk2; rw [← HRv.out] at hg2 hk2; obtain ⟨wt, e1, e2⟩ := HR.out.pushB (X := _) (by repeat' first | with_reducible exact Below.refl _ _ | with_reducible assumption | with_reducible refine belows_drewN ?_ _ | with_reducible refine Below.drew ?_ | with_reducible refine Below.setCell ?_ ?_ _ | with_reducible refine Below.alloc ?_ ?_ _ | omega | (simp; done) | (simp; omega)) HFw.out HT2.out hg2 ho2 hk2; rw [HRv.out] at e1; obtain ⟨vb, vq, rfl⟩ := own_form ho2; have WT := hid wt; clear ho2 hg2 hk2 wt)
          all_goals
            obtain ⟨X, hX⟩ : ∃ X, X = w2.setCell ⟨rb, 1, none⟩ (.slice vb (s.l.length + 1) vq) := ⟨_, rfl⟩
            rw [← hX] at WT ⊢
            clear hX e1 e2 y1
            obtain ⟨rs', hR'⟩ := WT.out.rep
            obtain ⟨-, y1, -⟩ := ref_box hR'
            clear hR'
            go_wp2
            go_ret2
            have e5 : zerosOf ts = ts.map fun t => (zeroOf t).getD Hp.V0 := rfl
            first | exact ⟨_, by rw [HO2.out]; simp, by rw [HO2.out, ← e5]; simpa using RWent.start HB2.out WT.out⟩ | exact ⟨by rw [HO2.out]; simp, _, by rw [HO2.out, ← e5]; simpa using RWent.start HB2.out WT.out⟩
        · have HO2 := hid (HO1.out.trans (if_pos (by simpa using h3)))
          rw [← HM.out] at h3
          have hd3 : decide ((s.lim : Int) - s.used ≤ (j : Int)) = true := by simp only [decide_eq_true_eq]; omega
          clear HZ HU HRef HV HHv hno hzl h3 h1 yx
          go_wp2_with fail
          refine wp_region_quiet_below (by kernel_rfl) (by kernel_rfl) ?_
          (iterate 10 (go_big_quiet_step (exact HUU.out _ _)))
          refine wpQuiet_nil ?_
          intro W2 hw'
          obtain ⟨⟨dq, osq⟩, hw''⟩ := hw'
          have hbq := below_regrown wr dq osq
          rw [← hw''] at hbq
          clear hw'' HUU q0
          have B2 := belows HB.out hbq HB.out.size
          go_wp2
          go_ret2
          exact ⟨rv, by rw [HO2.out]; rfl, by rw [HO2.out]; exact HRw.out _ B2⟩
end Go.Proofs.Ythembnakeikmeaa
namespace Go.Proofs.Ythembnakeikmeaa
open Go.ChangeShapes Go.WideShapes Go.ChangeAt Go.RowKit Go.WideMaps Go.WideElems

set_option maxRecDepth 100000
section
variable {H : Type} {enc : TypeId × Value → H}
theorem weights_allT {P : Program} {e : TypeId} : ∀ {ds : List (DataW H)} {d : DataW H}, d ∈ ds → (DataW.weightsAll P e ds).all (· ≤ reachBytes) = true → (d.weights P e).all (· ≤ reachBytes) = true
  | [], _, h, _ => by cases h
  | x :: r, d, h, hw => by
    simp only [DataW.weightsAll, List.all_append, Bool.and_eq_true] at hw
    rcases List.mem_cons.1 h with rfl | h
    · exact hw.1
    · exact weights_allT h hw.2
theorem bulk_pos (d : DataW H) : 1 ≤ Rows.uptoBulk d := by
  cases d with
  | lit l => cases l <;> simp [Rows.uptoBulk]
  | _ => simp [Rows.uptoBulk]
theorem bulk_len : ∀ l : List (DataW H), l.length ≤ Rows.uptoBulkAll l
  | [] => by simp [Rows.uptoBulkAll]
  | x :: r => by have h1 := bulk_pos x; have h2 := bulk_len r; simp only [Rows.uptoBulkAll, List.length_cons]; omega
theorem bulk_mem : ∀ {l : List (DataW H)} {d : DataW H}, d ∈ l → Rows.uptoBulk d ≤ Rows.uptoBulkAll l
  | [], _, h => by cases h
  | x :: r, d, h => by
    simp only [Rows.uptoBulkAll]
    rcases List.mem_cons.1 h with rfl | h
    · omega
    · have := bulk_mem h; omega
theorem A.cellsInt : Try.prog.cellsOf 3 = 1 := by kernel_rfl
theorem A.cellsI64 : Try.prog.cellsOf 2 = 1 := by kernel_rfl
theorem A.cellsStr : Try.prog.cellsOf 9 = 1 := by kernel_rfl
theorem A.cellsTy : Try.prog.cellsOf 33 = 2 := by kernel_rfl
theorem A.cellsVl : Try.prog.cellsOf 35 = 2 := by kernel_rfl
theorem A.cellsTys : Try.prog.cellsOf 31 = 1 := by kernel_rfl
set_option maxRecDepth 100000 in
/-- A list of things of so many cells each, in a cell. -/
theorem list_cell {α : Type} {W : World} {n : Nat} {k : Value} {y : DataW H × List MemPlace} {tS tE : TypeId} {s by_ : Nat} (G : DataW H → List Value → α → Prop) (hG : ∀ d cs x, G d cs x → cs.length = s) (hs : 0 < s)
    (hu : Try.prog.underlying tS = some (.slice tE)) (hco : Try.prog.cellsOf tE = s) (hby : Try.prog.bytesOf tE = by_) (hb0 : 0 < by_)
    (he : ∀ (m : Nat) (cs : List Value) (z : DataW H × List MemPlace), DataW.trod enc Try.prog W 0 (fun _ => true) true m tE cs = some z → (z.1.weights Try.prog tE).all (· ≤ reachBytes) = true → ∃ x, G z.1 cs x)
    (h : DataW.trod enc Try.prog W 0 (fun _ => true) true n tS [k] = some y) (hw : (y.1.weights Try.prog tS).all (· ≤ reachBytes) = true) :
    ∃ (xs : List α) (rs : List (List Value)), rs.length = xs.length ∧ (∀ (i : Nat) (r : List Value) (x : α), rs[i]? = some r → xs[i]? = some x → ∃ d, G d r x ∧ Rows.uptoBulk d ≤ Rows.uptoBulk y.1) ∧ Kit.IsS s W k xs.length rs.flatten ∧ xs.length * by_ ≤ 140737488351232 ∧ xs.length ≤ Rows.uptoBulk y.1 := by
  rcases DataW.trod_slice hu h with ⟨hcs, rfl⟩ | ⟨a, len, cap, elems, rest, m, -, hcs, rfl, -, hl, hm, hel, hcells, hsp, -⟩
  · obtain rfl : k = .slice none 0 0 := by simpa using hcs
    exact ⟨[], [], rfl, fun i r x hr => by simp at hr, ⟨by simp, by simp, .inl ⟨rfl, none, 0, rfl⟩⟩, by simp, by simp⟩
  · obtain rfl : k = .slice (some a) len cap := by simpa using hcs
    simp only [DataW.weights, hu, List.all_cons, List.all_append, Bool.and_eq_true, decide_eq_true_eq, hby] at hw
    have hcap : len * by_ ≤ 140737488351232 := by
      have h1 := hw.1
      simp only [List.length_map, reachBytes] at h1
      rw [hel] at h1
      exact Nat.le_trans (Nat.mul_le_mul_right _ (Nat.le_add_right _ _)) h1
    have hbl : len ≤ Rows.uptoBulk (.slice (elems.map (·.1)) (rest.map (·.1)) : DataW H) := by
      have := bulk_len (elems.map (·.1))
      rw [List.length_map, hel] at this
      simp only [Rows.uptoBulk]
      omega
    have each : ∀ i, ∃ q : List Value × Option α, i < len → q.1.length = s ∧ (∀ j, j < s → W.cell? ((a.add (i * s)).add j) = q.1[j]?) ∧ ∃ x d, q.2 = some x ∧ G d q.1 x ∧ Rows.uptoBulk d ≤ Rows.uptoBulk (.slice (elems.map (·.1)) (rest.map (·.1)) : DataW H) := by
      intro i
      by_cases hi : i < len
      · have h1 := hcells i hi
        rw [hco, List.getElem?_eq_getElem (by omega), Option.bind_eq_some_iff] at h1
        obtain ⟨cs, hcs', htr⟩ := h1
        have hmem : elems[i].1 ∈ elems.map (·.1) := List.mem_map_of_mem (List.getElem_mem _)
        obtain ⟨x, hx⟩ := he _ _ _ htr (weights_allT hmem hw.2.1)
        refine ⟨(cs, some x), fun _ => ⟨hG _ _ _ hx, fun j hj => (World.cells?_some hcs').2.2 j hj, x, _, rfl, hx, ?_⟩⟩
        have := bulk_mem hmem
        simp only [Rows.uptoBulk]
        omega
      · exact ⟨([], none), fun h => absurd h hi⟩
    obtain ⟨f, hfx⟩ := Classical.skolem.1 each
    have hxs : ∃ xs : List α, xs.length = len ∧ ∀ i, i < len → xs[i]? = (f i).2 := by
      have : ∀ m, m ≤ len → ∃ xs : List α, xs.length = m ∧ ∀ i, i < m → xs[i]? = (f i).2 := by
        intro m
        induction m with
        | zero => intro _; exact ⟨[], rfl, fun i hi => by omega⟩
        | succ m ih =>
          intro hm
          obtain ⟨xs, h1, h2⟩ := ih (by omega)
          obtain ⟨-, -, x, d, hx, -⟩ := hfx m (by omega)
          refine ⟨xs ++ [x], by simp [h1], fun i hi => ?_⟩
          by_cases e : i < m
          · rw [List.getElem?_append_left (by omega)]; exact h2 i e
          · obtain rfl : i = m := by omega
            rw [List.getElem?_append_right (by omega), h1, Nat.sub_self, hx]
            rfl
      exact this len (Nat.le_refl _)
    obtain ⟨xs, hxl, hxe⟩ := hxs
    have hrl : ∀ r ∈ (List.range len).map (fun i => (f i).1), r.length = s := by
      intro r hr
      obtain ⟨i, hi, rfl⟩ := List.mem_map.1 hr
      exact (hfx i (List.mem_range.1 hi)).1
    have hfl : ∀ (rs : List (List Value)), (∀ r ∈ rs, r.length = s) → rs.flatten.length = rs.length * s ∧ ∀ i r, rs[i]? = some r → ∀ j, j < s → rs.flatten[i * s + j]? = r[j]? := by
      intro rs
      induction rs with
      | nil => intro _; exact ⟨by simp, fun i r hr => by simp at hr⟩
      | cons r0 rs ih =>
        intro hr
        obtain ⟨h1, h2⟩ := ih (fun r h => hr r (List.mem_cons_of_mem _ h))
        have h0 := hr r0 (by simp)
        refine ⟨by rw [List.flatten_cons, List.length_append, h0, h1, List.length_cons, Nat.succ_mul]; omega, fun i r hi j hj => ?_⟩
        match i, hi with
        | 0, hi =>
          simp at hi
          subst hi
          rw [List.flatten_cons, List.getElem?_append_left (by omega)]
          simp
        | i + 1, hi =>
          rw [List.flatten_cons, List.getElem?_append_right (by rw [h0, Nat.succ_mul]; omega), h0, ← h2 i r (by simpa using hi) j hj]
          congr 1
          rw [Nat.succ_mul]
          omega
    obtain ⟨hfl1, hfl2⟩ := hfl _ hrl
    have hrlen : ((List.range len).map (fun i => (f i).1)).length = len := by simp
    refine ⟨xs, (List.range len).map (fun i => (f i).1), by rw [hrlen, hxl], fun i r x hr hx => ?_, ⟨by rw [hfl1, hrlen, hxl], by rw [hxl]; exact Nat.le_trans (Nat.le_trans (Nat.le_mul_of_pos_right _ hb0) hcap) (by decide), ?_⟩, by rw [hxl]; exact hcap, by rw [hxl]; exact hbl⟩
    · have hi : i < len := by
        have := (List.getElem?_eq_some_iff.1 hx).1
        omega
      obtain ⟨-, -, x', d, hx', hg, hb⟩ := hfx i hi
      rw [hxe i hi, hx'] at hx
      cases hx
      rw [List.getElem?_map, List.getElem?_range hi] at hr
      simp only [Option.map_some, Option.some.injEq] at hr
      subst hr
      exact ⟨d, hg, hb⟩
    · by_cases h0 : len = 0
      · exact .inl ⟨by rw [hxl, h0], some a, cap, by rw [h0]⟩
      · obtain ⟨b, o, spot⟩ := a
        have hsp0 : ∃ u, W.cell? (((⟨b, o, spot⟩ : Addr).add (0 * s)).add 0) = some u := by
          obtain ⟨h1, h2, -⟩ := hfx 0 (by omega)
          refine ⟨(f 0).1[0]'(by omega), ?_⟩
          rw [h2 0 hs, List.getElem?_eq_getElem]
        obtain ⟨u0, hsp0⟩ := hsp0
        have hspot : spot = none := by
          have := World.cell?_spot hsp0
          simpa [Addr.add] using this
        subst hspot
        have hat : ∀ i j, ((⟨b, o, none⟩ : Addr).add i).add j = ⟨b, o + (i + j), none⟩ := by
          intro i j
          rw [add_plain, add_plain]; congr 1; omega
        refine .inr ⟨b, o, cap, by rw [hxl], by rw [hxl]; exact hl, ?_, fun i u hi => ?_⟩
        · have := World.block_lt_of_cell? W _ hsp0
          simpa [Addr.add] using this
        · have hil : i < len * s := by
            have := (List.getElem?_eq_some_iff.1 hi).1
            rw [hfl1, hrlen] at this
            exact this
          have hq : i / s < len := Nat.div_lt_of_lt_mul (by rw [Nat.mul_comm]; exact hil)
          have hr : i % s < s := Nat.mod_lt _ hs
          have e : i / s * s + i % s = i := by rw [Nat.mul_comm]; exact Nat.div_add_mod i s
          have hget : ((List.range len).map (fun i => (f i).1))[i / s]? = some (f (i / s)).1 := by rw [List.getElem?_map, List.getElem?_range hq]; rfl
          have h1 := hfl2 (i / s) _ hget (i % s) hr
          rw [e] at h1
          have h2 := (hfx (i / s) hq).2.1 (i % s) hr
          rw [hat, e] at h2
          rw [h2, ← h1]
          exact hi
theorem rs_map {α : Type} {f : α → List Value} {xs : List α} {rs : List (List Value)} (hl : rs.length = xs.length) (h : ∀ (i : Nat) (r : List Value) (x : α), rs[i]? = some r → xs[i]? = some x → r = f x) : rs.flatten = xs.flatMap f := by
  have e : rs = xs.map f := by
    apply List.ext_getElem?
    intro i
    rw [List.getElem?_map]
    by_cases hi : i < xs.length
    · have h1 : rs[i]? = some rs[i] := List.getElem?_eq_getElem (by omega)
      have h2 : xs[i]? = some xs[i] := List.getElem?_eq_getElem hi
      rw [h1, h2, h i _ _ h1 h2]
      rfl
    · rw [List.getElem?_eq_none (by omega), List.getElem?_eq_none (by omega)]
      rfl
  rw [e, List.flatMap_def]
theorem i64_of {a : Int} (h : (Lit.int .i64 a).wf = true) : -9223372036854775808 ≤ a ∧ a ≤ 9223372036854775807 := by
  simp [Lit.wf, IntKind.min, IntKind.max, IntKind.signed, IntKind.bits] at h
  omega
theorem ty_cells {W : World} {n : Nat} {cs : List Value} {y : DataW H × List MemPlace} (h : DataW.trod enc Try.prog W 0 (fun _ => true) true n 33 cs = some y) : ∃ x : Hp.Ty, cs = tL x := by
  obtain ⟨y0, y1, m, hx, hl, hy0, hy1⟩ := trod_struct2 Try.underlying33 h
  rw [A.cellsTy] at hl
  match cs, hl with
  | [c0, c1], _ =>
  obtain ⟨a, e0, rfl, wa⟩ := DataW.trod_int Try.underlying3 hy0
  obtain ⟨b, e1, rfl, wb⟩ := DataW.trod_string Try.underlying9 hy1
  simp [A.cellsInt, A.cellsStr] at e0 e1
  subst e0 e1
  exact ⟨⟨a, b⟩, rfl⟩
theorem vl_cells {W : World} {n : Nat} {cs : List Value} {y : DataW H × List MemPlace} (h : DataW.trod enc Try.prog W 0 (fun _ => true) true n 35 cs = some y) : ∃ x : Hp.Vl, cs = vL x ∧ -9223372036854775808 ≤ x.n ∧ x.n ≤ 9223372036854775807 := by
  obtain ⟨y0, y1, m, hx, hl, hy0, hy1⟩ := trod_struct2 Try.underlying35 h
  rw [A.cellsVl] at hl
  match cs, hl with
  | [c0, c1], _ =>
  obtain ⟨a, e0, rfl, wa⟩ := DataW.trod_int Try.underlying3 hy0
  obtain ⟨b, e1, rfl, wb⟩ := DataW.trod_int Try.underlying2 hy1
  simp [A.cellsInt, A.cellsI64] at e0 e1
  subst e0 e1
  exact ⟨⟨a, b⟩, rfl, i64_of wb⟩
theorem tys_cell {W : World} {n : Nat} {k : Value} {y : DataW H × List MemPlace} (h : DataW.trod enc Try.prog W 0 (fun _ => true) true n 31 [k] = some y) (hw : (y.1.weights Try.prog 31).all (· ≤ reachBytes) = true) :
    ∃ l : List Hp.Ty, Kit.IsS 2 W k l.length (l.flatMap tL) ∧ l.length * 24 ≤ 140737488351232 := by
  obtain ⟨xs, rs, h1, h2, h3, h4, h5⟩ := list_cell (s := 2) (by_ := 24) (tE := 33) (fun (_ : DataW H) cs (x : Hp.Ty) => cs = tL x) (fun _ _ x h => by rw [h]; rfl) (by decide) Try.underlying31 (by kernel_rfl) (by kernel_rfl) (by decide) (fun m cs z hz _ => ty_cells hz) h hw
  refine ⟨xs, ?_, h4⟩
  rw [← rs_map h1 (fun i r x hr hx => by obtain ⟨d, hd, -⟩ := h2 i r x hr hx; exact hd)]
  exact h3
namespace Hp
structure Op where
  f : Int
  c : Int
  ts : List Ty
  el : Ty
  ref : Int
  i : Int
  v : Vl
end Hp
/-- An operation's cells. -/
def OpR (W : World) (cs : List Value) (x : Hp.Op) : Prop := ∃ kv, cs = [.int .i64 x.f, .int .i64 x.c, kv, .int .i64 x.el.k, .string x.el.s, .int .i64 x.ref, .int .i64 x.i, .int .i64 x.v.k, .int .i64 x.v.n] ∧ Kit.IsS 2 W kv x.ts.length (x.ts.flatMap tL)
structure GoodO (x : Hp.Op) : Prop where
  f : -9223372036854775808 ≤ x.f ∧ x.f ≤ 9223372036854775807
  c : -9223372036854775808 ≤ x.c ∧ x.c ≤ 9223372036854775807
  ref : -9223372036854775808 ≤ x.ref ∧ x.ref ≤ 9223372036854775807
  i : -9223372036854775808 ≤ x.i ∧ x.i ≤ 9223372036854775807
  n : -9223372036854775808 ≤ x.v.n ∧ x.v.n ≤ 9223372036854775807
  ts : x.ts.length * 24 ≤ 140737488351232
theorem op_cells {W : World} {n : Nat} {cs : List Value} {y : DataW H × List MemPlace} (h : DataW.trod enc Try.prog W 0 (fun _ => true) true n 37 cs = some y) (hw : (y.1.weights Try.prog 37).all (· ≤ reachBytes) = true) :
    ∃ x : Hp.Op, OpR W cs x ∧ GoodO x := by
  obtain ⟨xs, m, -, hy, hl, hlen, hf⟩ := DataW.trod_struct Try.underlying37 h
  have hl9 : cs.length = 9 := hl.trans (by kernel_rfl)
  have hx7 : xs.length = 7 := hlen
  match xs, hx7 with
  | [x0, x1, x2, x3, x4, x5, x6], _ =>
  match cs, hl9 with
  | [k0, k1, k2, k3, k4, k5, k6, k7, k8], _ =>
  obtain ⟨a, e0, g0, w0⟩ := DataW.trod_int Try.underlying3 (hf 0 _ rfl)
  obtain ⟨b, e1, g1, w1⟩ := DataW.trod_int Try.underlying3 (hf 1 _ rfl)
  obtain ⟨c, e4, g4, w4⟩ := DataW.trod_int Try.underlying2 (hf 4 _ rfl)
  obtain ⟨d, e5, g5, w5⟩ := DataW.trod_int Try.underlying2 (hf 5 _ rfl)
  have q0 : ([k0, k1, k2, k3, k4, k5, k6, k7, k8].drop 0).take (Try.prog.cellsOf 3) = [.int .i64 a] := e0
  have q1 : ([k0, k1, k2, k3, k4, k5, k6, k7, k8].drop 1).take (Try.prog.cellsOf 3) = [.int .i64 b] := e1
  have q4 : ([k0, k1, k2, k3, k4, k5, k6, k7, k8].drop 5).take (Try.prog.cellsOf 2) = [.int .i64 c] := e4
  have q5 : ([k0, k1, k2, k3, k4, k5, k6, k7, k8].drop 6).take (Try.prog.cellsOf 2) = [.int .i64 d] := e5
  have f2 : DataW.trod enc Try.prog W 0 (fun _ => true) true m 31 (([k0, k1, k2, k3, k4, k5, k6, k7, k8].drop 2).take (Try.prog.cellsOf 31)) = some x2 := hf 2 _ rfl
  have f3 : DataW.trod enc Try.prog W 0 (fun _ => true) true m 33 (([k0, k1, k2, k3, k4, k5, k6, k7, k8].drop 3).take (Try.prog.cellsOf 33)) = some x3 := hf 3 _ rfl
  have f6 : DataW.trod enc Try.prog W 0 (fun _ => true) true m 35 (([k0, k1, k2, k3, k4, k5, k6, k7, k8].drop 7).take (Try.prog.cellsOf 35)) = some x6 := hf 6 _ rfl
  rw [A.cellsInt] at q0 q1
  rw [A.cellsI64] at q4 q5
  rw [A.cellsTys] at f2
  rw [A.cellsTy] at f3
  rw [A.cellsVl] at f6
  simp only [List.drop_zero, List.take_succ_cons, List.take_zero, List.cons.injEq, and_true, List.drop_succ_cons] at q0 q1 q4 q5 f2 f3 f6
  subst q0 q1 q4 q5
  subst hy
  simp only [DataW.weights, Try.underlying37, List.map_cons, List.map_nil, DataW.weightsEach, List.all_append, Bool.and_eq_true] at hw
  obtain ⟨ts, ht1, ht2⟩ := tys_cell f2 (by simp_all)
  obtain ⟨el, he⟩ := ty_cells f3
  obtain ⟨v, hv, hv1, hv2⟩ := vl_cells f6
  simp only [tL, vL, List.cons.injEq, and_true] at he hv
  obtain ⟨rfl, rfl⟩ := he
  obtain ⟨rfl, rfl⟩ := hv
  exact ⟨⟨a, b, ts, el, c, d, v⟩, ⟨k2, rfl, ht1⟩, ⟨i64_of w0, i64_of w1, i64_of w4, i64_of w5, ⟨hv1, hv2⟩, ht2⟩⟩
def OpsR (W : World) (v : Value) (l : List Hp.Op) : Prop := ∃ rs : List (List Value), rs.length = l.length ∧ (∀ (i : Nat) (r : List Value) (x : Hp.Op), rs[i]? = some r → l[i]? = some x → OpR W r x) ∧ Kit.IsS 9 W v l.length rs.flatten
theorem open_ops {W : World} {v : Value} {d : DataW H} {ps : List MemPlace} {base : Nat}
    (hok : Value.okWide Try.prog W .any base 22 v) (h : DataW.Trod enc Try.prog W 0 (fun _ => true) true 22 v d ps) (hw : (d.weights Try.prog 22).all (· ≤ reachBytes) = true) : ∃ l : List Hp.Op, OpsR W v l ∧ ∀ x ∈ l, GoodO x := by
  obtain ⟨a0, len, cap, rfl⟩ := okWide_slice Try.underlying22 hok
  obtain ⟨fuel, hf⟩ := h
  obtain ⟨xs, rs, h1, h2, h3, h4, h5⟩ := list_cell (s := 9) (by_ := 96) (tE := 37) (fun (_ : DataW H) cs (x : Hp.Op) => OpR W cs x ∧ GoodO x) (fun _ _ x h => by obtain ⟨⟨kv, h, -⟩, -⟩ := h; rw [h]; rfl) (by decide) Try.underlying22 (by kernel_rfl) (by kernel_rfl) (by decide) (fun m cs z hz hw => op_cells hz hw) (y := (d, ps)) hf hw
  refine ⟨xs, ⟨rs, h1, fun i r x hr hx => ?_, h3⟩, fun x hx => ?_⟩
  · obtain ⟨d, hd, -⟩ := h2 i r x hr hx
    exact hd.1
  · obtain ⟨i, hi⟩ := List.mem_iff_getElem?.1 hx
    have hlt : i < rs.length := by rw [h1]; exact (List.getElem?_eq_some_iff.1 hi).1
    obtain ⟨d, hd, -⟩ := h2 i _ x (List.getElem?_eq_getElem hlt) hi
    exact hd.2
theorem weights_eachT {P : Program} : ∀ {ts : List TypeId} {ds : List (DataW H)} {j : Nat} {t : TypeId} {d : DataW H}, ts[j]? = some t → ds[j]? = some d → (DataW.weightsEach P ts ds).all (· ≤ reachBytes) = true → (d.weights P t).all (· ≤ reachBytes) = true
  | [], _, _, _, _, h, _, _ => by simp at h
  | _, [], _, _, _, _, h, _ => by simp at h
  | t :: ts, d :: ds, 0, _, _, h1, h2, h => by
    simp only [List.getElem?_cons_zero, Option.some.injEq] at h1 h2
    subst h1 h2
    simp only [DataW.weightsEach, List.all_append, Bool.and_eq_true] at h
    exact h.1
  | t :: ts, d :: ds, j + 1, _, _, h1, h2, h => by
    simp only [DataW.weightsEach, List.all_append, Bool.and_eq_true] at h
    exact weights_eachT (j := j) (by simpa using h1) (by simpa using h2) h.2
end
end Go.Proofs.Ythembnakeikmeaa
namespace Go.Proofs.Ythembnakeikmeaa
open Go Go.RowKit

theorem Rep.mono {w : World} {b b' : Nat} {H : HV} {s : Hp.St} (h : Rep w b H s) (hb : b' ≤ b) : Rep w b' H s :=
  ⟨h.box, h.ins, own_mono h.oa hb, own_mono h.ob hb, own_mono h.oc hb, own_mono h.od hb, own_mono h.oe hb, h.ac, h.ae, h.ce, Nat.le_trans hb h.lh, Nat.le_trans hb h.li⟩
/-- Both heaps, the program's as sp, the document's as sr; W0 is the world of the law's arguments. -/
structure Two (W0 w : World) (H : HV) (rb : Nat) (rv : Value) (sp sr : Hp.Hs) : Prop where
  below : Below W0.heap.size W0 w
  rep : Rep w W0.heap.size H sp.flat
  ref : ∃ rs, RefR w W0.heap.size H.foot rb sr rv rs
section
variable {W0 w w1 : World} {H H' : HV} {rb : Nat} {rv rv' : Value} {sp sr sp' sr' : Hp.Hs}
theorem Two.next (h : Two W0 w H rb rv sp sr) (k : Below w.heap.size w w1) : Two W0 w1 H rb rv sp sr := by
  obtain ⟨rs, hr⟩ := h.ref
  exact ⟨belows h.below k h.below.size, h.rep.below k, rs, hr.below k⟩
theorem Two.foot (h : Two W0 w H rb rv sp sr) : ∀ i, H.foot i → i < w.heap.size := fun i hi => (h.rep.low i hi).2
theorem Two.prog (h : Two W0 w H rb rv sp sr) (k : Went w w1 W0.heap.size H H' sp'.flat) : Two W0 w1 H' rb rv sp' sr := by
  obtain ⟨rs, hr⟩ := h.ref
  refine ⟨h.below.trans (k.chg.to_below (fun i hi => (h.rep.low i hi).1) h.below.size), k.rep, rs, hr.chg k.chg (fun i _ hi => .inl hi) (fun i hi hf => ?_)⟩
  rcases k.foot i hf with e | e
  · exact e
  · omega
theorem RefR.ownlow {base : Nat} {F : Nat → Prop} {rs : List (List Value)} (h : RefR w base F rb sr rv rs) : ∀ i, (i = rb ∨ rv.ownBlock = some i) → base ≤ i := by
  rintro i (rfl | e)
  · exact h.lb
  · exact Kit.own_base h.row i e
theorem Two.doc (h : Two W0 w H rb rv sp sr) (k : RWent w w1 W0.heap.size H.foot rb rv rv' sr') : Two W0 w1 H rb rv' sp sr' := by
  obtain ⟨rs, hr⟩ := h.ref
  refine ⟨h.below.trans (k.chg.to_below (fun i hi => hr.ownlow i hi) h.below.size), h.rep.chg k.chg (fun i hf e => ?_), k.rep⟩
  rcases e with e | e
  · exact hr.offb (e ▸ hf)
  · exact hr.off i e hf
/-- A box that the call made itself stays, whatever either heap does. -/
theorem Two.box_prog {S : World} {b : Nat} {cs : Array Value} {T : TypeId} (h : Two W0 w H rb rv sp sr) (k : Went S w1 W0.heap.size H H' sp'.flat) (hb : w.heap.size ≤ b) (hx : BX S b cs T) : BX w1 b cs T :=
  hx.chg k.chg (fun e => by have := h.foot b e; omega)
theorem Two.box_doc {S : World} {b : Nat} {cs : Array Value} {T : TypeId} (h : Two W0 w H rb rv sp sr) (k : RWent S w1 W0.heap.size H'.foot rb rv rv' sr') (hb : w.heap.size ≤ b) (hx : BX S b cs T) : BX w1 b cs T := by
  obtain ⟨rs, hr⟩ := h.ref
  refine hx.chg k.chg ?_
  rintro (e | e)
  · have := (ref_box hr).2.2
    omega
  · have := Kit.own_lt hr.row b e
    omega
end
namespace Hp
theorem st_ok {s : Hs} (h : s.Ok) (ref i : Int) (v : Vl) : (s.st ref i v).1.Ok := by
  by_cases he : (s.el ref i).2 = 0
  · obtain ⟨t, u, j, hth, hc, rfl, hu⟩ := el_zero he
    obtain ⟨r1, r2, hk⟩ := thing_at hth
    obtain ⟨x, hx⟩ := ok_one h (List.mem_of_getElem? hk) hc
    rw [(el_ok (v := v) hth hc hx hu).2]
    split
    · exact ok_put h hk v
    · exact h
  · rw [st_err he]
    exact h
theorem se_ok {s : Hs} (h : s.Ok) (ref i : Int) (v : Vl) : (s.se ref i v).1.Ok := by
  by_cases he : (s.fd ref i).2 = 0
  · obtain ⟨t, u, j, hth, hc, rfl, hu⟩ := fd_zero he
    obtain ⟨r1, r2, hk⟩ := thing_at hth
    obtain ⟨x, hx⟩ := obj_type h (List.mem_of_getElem? hk) hc (List.getElem?_eq_some_iff.1 hu).1
    rw [(fd_ok (v := v) hth hc hx hu).2]
    split
    · exact ok_put h hk v
    · exact h
  · rw [se_err he]
    exact h
end Hp
namespace Kit
end Kit
/-- An operation's cells in a box of the step's own. -/
def opA (x : Hp.Op) (kv : Value) : Array Value := #[.int .i64 x.f, .int .i64 x.c, kv, .int .i64 x.el.k, .string x.el.s, .int .i64 x.ref, .int .i64 x.i, .int .i64 x.v.k, .int .i64 x.v.n]
/-- Behind a step: the heap to go on with, and that the answers are the same. -/
def StPost (W0 : World) (rb : Nat) (e : Ending) (w' : World) : Prop := ∃ (H' : HV) (rv' : Value) (s' : Hp.Hs), e = .returned (.tuple #[.pointer (some ⟨H'.hb, 0, none⟩), .bool true]) ∧ Two W0 w' H' rb rv' s' s' ∧ s'.Ok
structure ArgO (W0 : World) (x : Hp.Op) (kv : Value) : Prop where
  good : GoodO x
  ts : Kit.IsS 2 W0 kv x.ts.length (x.ts.flatMap tL)
theorem ArgO.isO {W0 w : World} {x : Hp.Op} {kv : Value} (h : ArgO W0 x kv) {H : HV} {rb : Nat} {rv : Value} {sp sr : Hp.Hs} (t : Two W0 w H rb rv sp sr) : IsO H.foot 2 w kv x.ts.length (x.ts.flatMap tL) :=
  (isO_of h.ts (fun b hb e => by have := (t.rep.low b e).1; omega)).below t.below
theorem ArgO.isS {W0 w : World} {x : Hp.Op} {kv : Value} (h : ArgO W0 x kv) {H : HV} {rb : Nat} {rv : Value} {sp sr : Hp.Hs} (t : Two W0 w H rb rv sp sr) : Kit.IsS 2 w kv x.ts.length (x.ts.flatMap tL) := h.ts.below t.below (Nat.le_refl _)
end Go.Proofs.Ythembnakeikmeaa
namespace Go.Proofs.Ythembnakeikmeaa
open Go Go.RowKit

set_option maxRecDepth 100000 in
set_option maxHeartbeats 4000000 in
theorem step_obj {W0 w : World} {H : HV} {rb : Nat} {rv : Value} {s : Hp.Hs} {x : Hp.Op} {kv : Value} (h : Two W0 w H rb rv s s) (ok : s.Ok) (g : ArgO W0 x kv) (hf : x.f = 0) :
    Calls Try.prog 10 #[.pointer (some ⟨H.hb, 0, none⟩), .pointer (some ⟨rb, 0, none⟩), .agg (opA x kv)] w (StPost W0 rb) := by
  obtain ⟨o, ho⟩ : ∃ o, o = s.obj x.c x.ts := ⟨_, rfl⟩
  have HOk : Hid (o.1.Ok) := hid (by rw [ho]; exact Hp.obj_ok ok _ _)
  have HT := hid (h.next ((Below.refl _ _).alloc (Nat.le_refl _) (.cells (opA x kv) 37)))
  have HBx := hid (BX.new w (opA x kv) 37)
  have HG := hid g
  have HS := hid h
  obtain ⟨hbH, hhb⟩ : ∃ b, b = H.hb := ⟨_, rfl⟩
  have HP := hid (Object_any HT.out.rep ok x.c x.ts kv (g.isO HT.out))
  rw [← ho, ← hhb] at HP
  have HHb := hid hhb
  have HD := hid (fun (w1 : World) (H1 : HV) (rs : List (List Value)) (hr : RefR w1 W0.heap.size H1.foot rb s rv rs) (hT : Two W0 w1 H1 rb rv o.1 s) => robject_any hr ok hT.foot x.c x.ts kv (g.isS hT) (by have := g.good.ts; omega))
  simp only [← ho] at HD
  obtain ⟨xf, xc, xts, xel, xref, xi, xv⟩ := x
  simp only at hf
  subst hf
  rw [← hhb]
  unfold opA at *
  unfold StPost OutPost ROut at *
  (try unfold tA at HP)
  (try unfold tA at HD)
  dsimp only at *
  clear h ok g ho hhb
  go_enter Try.func10, Try.ntmps10
  go_wp2_with fail
  refine HP.out.mono ?_
  rintro e w1 ⟨H1, rfl, hW1⟩
  have HT1 := hid (HT.out.prog hW1)
  have HE := hid (HHb.out.trans hW1.hb.symm)
  have b1 := HS.out.box_prog hW1 (Nat.le_refl _) HBx.out
  obtain ⟨rs, hr⟩ := HT1.out.ref
  have HD1 := hid (HD.out w1 H1 rs hr HT1.out)
  have e0 := b1.cell 0
  have e1 := b1.cell 1
  have e2 := b1.cell 2
  have e3 := b1.cell 3
  have e4 := b1.cell 4
  have e5 := b1.cell 5
  have e6 := b1.cell 6
  simp at e0 e1 e2 e3 e4 e5 e6
  clear hW1 b1 hr HD
  go_wp2_with fail
  refine HD1.out.mono ?_
  rintro e w2 ⟨rv2, rfl, hW2⟩
  have HT2 := hid (HT1.out.doc hW2)
  clear hW2 HD1
  go_wp2
  go_ret2
  exact ⟨H1, rv2, o.1, by rw [← HE.out]; rfl, HT2.out, HOk.out⟩
set_option maxRecDepth 100000 in
set_option maxHeartbeats 4000000 in
theorem step_arr {W0 w : World} {H : HV} {rb : Nat} {rv : Value} {s : Hp.Hs} {x : Hp.Op} {kv : Value} (h : Two W0 w H rb rv s s) (ok : s.Ok) (g : ArgO W0 x kv) (hf : x.f = 1) :
    Calls Try.prog 10 #[.pointer (some ⟨H.hb, 0, none⟩), .pointer (some ⟨rb, 0, none⟩), .agg (opA x kv)] w (StPost W0 rb) := by
  obtain ⟨o, ho⟩ : ∃ o, o = s.arr x.el x.i := ⟨_, rfl⟩
  have HOk : Hid (o.1.Ok) := hid (by rw [ho]; exact Hp.arr_ok ok _ _)
  have HT := hid (h.next ((Below.refl _ _).alloc (Nat.le_refl _) (.cells (opA x kv) 37)))
  have HBx := hid (BX.new w (opA x kv) 37)
  have HG := hid g
  have HS := hid h
  obtain ⟨hbH, hhb⟩ : ∃ b, b = H.hb := ⟨_, rfl⟩
  have HP := hid (Array_any HT.out.rep ok x.el x.i g.good.i)
  rw [← ho, ← hhb] at HP
  have HHb := hid hhb
  have HD := hid (fun (w1 : World) (H1 : HV) (rs : List (List Value)) (hr : RefR w1 W0.heap.size H1.foot rb s rv rs) (hT : Two W0 w1 H1 rb rv o.1 s) => rarray_any hr ok hT.foot x.el x.i g.good.i)
  simp only [← ho] at HD
  obtain ⟨xf, xc, xts, xel, xref, xi, xv⟩ := x
  simp only at hf
  subst hf
  rw [← hhb]
  unfold opA at *
  unfold StPost OutPost ROut at *
  (try unfold tA at HP)
  (try unfold tA at HD)
  dsimp only at *
  clear h ok g ho hhb
  go_enter Try.func10, Try.ntmps10
  go_wp2_with fail
  refine HP.out.mono ?_
  rintro e w1 ⟨H1, rfl, hW1⟩
  have HT1 := hid (HT.out.prog hW1)
  have HE := hid (HHb.out.trans hW1.hb.symm)
  have b1 := HS.out.box_prog hW1 (Nat.le_refl _) HBx.out
  obtain ⟨rs, hr⟩ := HT1.out.ref
  have HD1 := hid (HD.out w1 H1 rs hr HT1.out)
  have e0 := b1.cell 0
  have e1 := b1.cell 1
  have e2 := b1.cell 2
  have e3 := b1.cell 3
  have e4 := b1.cell 4
  have e5 := b1.cell 5
  have e6 := b1.cell 6
  simp at e0 e1 e2 e3 e4 e5 e6
  clear hW1 b1 hr HD
  go_wp2_with fail
  refine HD1.out.mono ?_
  rintro e w2 ⟨rv2, rfl, hW2⟩
  have HT2 := hid (HT1.out.doc hW2)
  clear hW2 HD1
  go_wp2
  go_ret2
  exact ⟨H1, rv2, o.1, by rw [← HE.out]; rfl, HT2.out, HOk.out⟩
end Go.Proofs.Ythembnakeikmeaa
namespace Go.Proofs.Ythembnakeikmeaa
open Go Go.RowKit

set_option maxRecDepth 100000 in
set_option maxHeartbeats 4000000 in
theorem step_get {W0 w : World} {H : HV} {rb : Nat} {rv : Value} {s : Hp.Hs} {x : Hp.Op} {kv : Value} (h : Two W0 w H rb rv s s) (ok : s.Ok) (g : ArgO W0 x kv) (hf : x.f = 2) :
    Calls Try.prog 10 #[.pointer (some ⟨H.hb, 0, none⟩), .pointer (some ⟨rb, 0, none⟩), .agg (opA x kv)] w (StPost W0 rb) := by
  obtain ⟨rs, hr⟩ := h.ref
  have hl := l_small ok
  have HBx := hid (BX.new w (opA x kv) 37)
  have HN := hid (fun X (k : Below w.heap.size w X) => h.next k)
  have HOk := hid ok
  obtain ⟨hbH, hhb⟩ : ∃ b, b = H.hb := ⟨_, rfl⟩
  have HHb := hid hhb
  obtain ⟨o, ho⟩ : ∃ o, o = s.fd x.ref x.i := ⟨_, rfl⟩
  have HP := hid (fun X (k : Below w.heap.size w X) => Get_any (h.rep.below k) ok x.ref x.i g.good.ref)
  have HD := hid (fun X (k : Below w.heap.size w X) => rget_any (hr.below k) ok x.ref x.i g.good.ref hl)
  simp only [← ho, ← hhb] at HP HD
  obtain ⟨xf, xc, xts, xel, xref, xi, xv⟩ := x
  simp only at hf
  subst hf
  rw [← hhb]
  unfold opA at *
  unfold StPost at *
  unfold vA at HP HD
  obtain ⟨⟨ok1, on1⟩, oe⟩ := o
  dsimp only at *
  clear h ok g ho hr hl hhb
  go_enter Try.func10, Try.ntmps10
  go_wp2_with fail
  refine (HP.out _ (by repeat' first | with_reducible exact Below.refl _ _ | with_reducible assumption | with_reducible refine belows_drewN ?_ _ | with_reducible refine Below.drew ?_ | with_reducible refine Below.setCell ?_ ?_ _ | with_reducible refine Below.alloc ?_ ?_ _ | omega | (simp; done) | (simp; omega))).mono ?_
  rintro e w1 ⟨rfl, hb1⟩
  have b1 := HBx.out.below hb1
  have e0 := b1.cell 0
  have e1 := b1.cell 1
  have e2 := b1.cell 2
  have e3 := b1.cell 3
  have e4 := b1.cell 4
  have e5 := b1.cell 5
  have e6 := b1.cell 6
  have e7 := b1.cell 7
  have e8 := b1.cell 8
  simp at e0 e1 e2 e3 e4 e5 e6 e7 e8
  have hs1 := b1.sz
  have B1 : Below w.heap.size w w1 := belows (B := w.heap.size) (a := w) (by repeat' first | with_reducible exact Below.refl _ _ | with_reducible assumption | with_reducible refine belows_drewN ?_ _ | with_reducible refine Below.drew ?_ | with_reducible refine Below.setCell ?_ ?_ _ | with_reducible refine Below.alloc ?_ ?_ _ | omega | (simp; done) | (simp; omega)) hb1 (by simp)
  clear hb1 b1
  go_wp2_with fail
  refine (HD.out _ (by repeat' first | with_reducible exact Below.refl _ _ | with_reducible assumption | with_reducible refine belows_drewN ?_ _ | with_reducible refine Below.drew ?_ | with_reducible refine Below.setCell ?_ ?_ _ | with_reducible refine Below.alloc ?_ ?_ _ | omega | (simp; done) | (simp; omega))).mono ?_
  rintro e w2 ⟨rfl, hb2⟩
  have b2 := (BX.new w1 #[.int .i64 ok1, .int .i64 on1] 35).below hb2
  have v0 := b2.cell 0
  have v1 := b2.cell 1
  simp at v0 v1
  have hs2 := b2.sz
  have B2 : Below w.heap.size w w2 := belows (belows B1 ((Below.refl _ w1).alloc (Nat.le_refl _) _) B1.size) hb2 (by have := B1.size; simp; omega)
  have hz2 := B2.size
  clear hb2 b2 e0 e1 e2 e3 e4 e5 e6 e7 e8
  go_wp2
  go_ret2
  exact ⟨H, rv, s, by rw [← HHb.out]; rfl, HN.out _ (by repeat' first | with_reducible exact Below.refl _ _ | with_reducible assumption | with_reducible refine belows_drewN ?_ _ | with_reducible refine Below.drew ?_ | with_reducible refine Below.setCell ?_ ?_ _ | with_reducible refine Below.alloc ?_ ?_ _ | omega | (simp; done) | (simp; omega)), HOk.out⟩
set_option maxRecDepth 100000 in
set_option maxHeartbeats 4000000 in
theorem step_load {W0 w : World} {H : HV} {rb : Nat} {rv : Value} {s : Hp.Hs} {x : Hp.Op} {kv : Value} (h : Two W0 w H rb rv s s) (ok : s.Ok) (g : ArgO W0 x kv) (hf : x.f = 4) :
    Calls Try.prog 10 #[.pointer (some ⟨H.hb, 0, none⟩), .pointer (some ⟨rb, 0, none⟩), .agg (opA x kv)] w (StPost W0 rb) := by
  obtain ⟨rs, hr⟩ := h.ref
  have hl := l_small ok
  have HBx := hid (BX.new w (opA x kv) 37)
  have HN := hid (fun X (k : Below w.heap.size w X) => h.next k)
  have HOk := hid ok
  obtain ⟨hbH, hhb⟩ : ∃ b, b = H.hb := ⟨_, rfl⟩
  have HHb := hid hhb
  obtain ⟨o, ho⟩ : ∃ o, o = s.el x.ref x.i := ⟨_, rfl⟩
  have HP := hid (fun X (k : Below w.heap.size w X) => Load_any (h.rep.below k) ok x.ref x.i g.good.ref)
  have HD := hid (fun X (k : Below w.heap.size w X) => rload_any (hr.below k) ok x.ref x.i g.good.ref hl)
  simp only [← ho, ← hhb] at HP HD
  obtain ⟨xf, xc, xts, xel, xref, xi, xv⟩ := x
  simp only at hf
  subst hf
  rw [← hhb]
  unfold opA at *
  unfold StPost at *
  unfold vA at HP HD
  obtain ⟨⟨ok1, on1⟩, oe⟩ := o
  dsimp only at *
  clear h ok g ho hr hl hhb
  go_enter Try.func10, Try.ntmps10
  go_wp2_with fail
  refine (HP.out _ (by repeat' first | with_reducible exact Below.refl _ _ | with_reducible assumption | with_reducible refine belows_drewN ?_ _ | with_reducible refine Below.drew ?_ | with_reducible refine Below.setCell ?_ ?_ _ | with_reducible refine Below.alloc ?_ ?_ _ | omega | (simp; done) | (simp; omega))).mono ?_
  rintro e w1 ⟨rfl, hb1⟩
  have b1 := HBx.out.below hb1
  have e0 := b1.cell 0
  have e1 := b1.cell 1
  have e2 := b1.cell 2
  have e3 := b1.cell 3
  have e4 := b1.cell 4
  have e5 := b1.cell 5
  have e6 := b1.cell 6
  have e7 := b1.cell 7
  have e8 := b1.cell 8
  simp at e0 e1 e2 e3 e4 e5 e6 e7 e8
  have hs1 := b1.sz
  have B1 : Below w.heap.size w w1 := belows (B := w.heap.size) (a := w) (by repeat' first | with_reducible exact Below.refl _ _ | with_reducible assumption | with_reducible refine belows_drewN ?_ _ | with_reducible refine Below.drew ?_ | with_reducible refine Below.setCell ?_ ?_ _ | with_reducible refine Below.alloc ?_ ?_ _ | omega | (simp; done) | (simp; omega)) hb1 (by simp)
  clear hb1 b1
  go_wp2_with fail
  refine (HD.out _ (by repeat' first | with_reducible exact Below.refl _ _ | with_reducible assumption | with_reducible refine belows_drewN ?_ _ | with_reducible refine Below.drew ?_ | with_reducible refine Below.setCell ?_ ?_ _ | with_reducible refine Below.alloc ?_ ?_ _ | omega | (simp; done) | (simp; omega))).mono ?_
  rintro e w2 ⟨rfl, hb2⟩
  have b2 := (BX.new w1 #[.int .i64 ok1, .int .i64 on1] 35).below hb2
  have v0 := b2.cell 0
  have v1 := b2.cell 1
  simp at v0 v1
  have hs2 := b2.sz
  have B2 : Below w.heap.size w w2 := belows (belows B1 ((Below.refl _ w1).alloc (Nat.le_refl _) _) B1.size) hb2 (by have := B1.size; simp; omega)
  have hz2 := B2.size
  clear hb2 b2 e0 e1 e2 e3 e4 e5 e6 e7 e8
  go_wp2
  go_ret2
  exact ⟨H, rv, s, by rw [← HHb.out]; rfl, HN.out _ (by repeat' first | with_reducible exact Below.refl _ _ | with_reducible assumption | with_reducible refine belows_drewN ?_ _ | with_reducible refine Below.drew ?_ | with_reducible refine Below.setCell ?_ ?_ _ | with_reducible refine Below.alloc ?_ ?_ _ | omega | (simp; done) | (simp; omega)), HOk.out⟩
end Go.Proofs.Ythembnakeikmeaa
namespace Go.Proofs.Ythembnakeikmeaa
open Go Go.RowKit

set_option maxRecDepth 100000 in
set_option maxHeartbeats 4000000 in
theorem step_looks {W0 w : World} {H : HV} {rb : Nat} {rv : Value} {s : Hp.Hs} {x : Hp.Op} {kv : Value} (h : Two W0 w H rb rv s s) (ok : s.Ok) (g : ArgO W0 x kv) (d0 : (x.f == 0) = false) (d1 : (x.f == 1) = false) (d2 : (x.f == 2) = false) (d3 : (x.f == 3) = false) (d4 : (x.f == 4) = false) (d5 : (x.f == 5) = false) (d7 : (x.f == 7) = false) :
    Calls Try.prog 10 #[.pointer (some ⟨H.hb, 0, none⟩), .pointer (some ⟨rb, 0, none⟩), .agg (opA x kv)] w (StPost W0 rb) := by
  obtain ⟨rs, hr⟩ := h.ref
  have hl := l_small ok
  have HBx := hid (BX.new w (opA x kv) 37)
  have HN := hid (fun X (k : Below w.heap.size w X) => h.next k)
  have HOk := hid ok
  obtain ⟨hbH, hhb⟩ : ∃ b, b = H.hb := ⟨_, rfl⟩
  have HHb := hid hhb
  obtain ⟨o1, ho1⟩ : ∃ o, o = s.len x.ref := ⟨_, rfl⟩
  obtain ⟨o2, ho2⟩ : ∃ o, o = s.cls x.ref := ⟨_, rfl⟩
  obtain ⟨o3, ho3⟩ : ∃ o, o = s.ety x.ref := ⟨_, rfl⟩
  have HP1 := hid (fun X (k : Below w.heap.size w X) => length_any (h.rep.below k) ok x.ref g.good.ref)
  have HD1 := hid (fun X (k : Below w.heap.size w X) => rlength_any (hr.below k) ok x.ref g.good.ref hl)
  have HP2 := hid (fun X (k : Below w.heap.size w X) => cls_any (h.rep.below k) ok x.ref g.good.ref)
  have HD2 := hid (fun X (k : Below w.heap.size w X) => rcls_any (hr.below k) ok x.ref g.good.ref hl)
  have HP3 := hid (fun X (k : Below w.heap.size w X) => ety_any (h.rep.below k) ok x.ref g.good.ref)
  have HD3 := hid (fun X (k : Below w.heap.size w X) => rety_any (hr.below k) ok x.ref g.good.ref hl)
  simp only [← ho1, ← hhb] at HP1 HD1
  simp only [← ho2, ← hhb] at HP2 HD2
  simp only [← ho3, ← hhb] at HP3 HD3
  obtain ⟨xf, xc, xts, xel, xref, xi, xv⟩ := x
  rw [← hhb]
  unfold opA at *
  unfold StPost at *
  unfold tA at HP3 HD3
  obtain ⟨l1, l2⟩ := o1
  obtain ⟨c1, c2⟩ := o2
  obtain ⟨⟨tk, tt⟩, t2⟩ := o3
  dsimp only at *
  clear h ok g ho1 ho2 ho3 hr hl hhb
  go_enter Try.func10, Try.ntmps10
  go_wp2_with fail
  refine (HP1.out _ (by repeat' first | with_reducible exact Below.refl _ _ | with_reducible assumption | with_reducible refine belows_drewN ?_ _ | with_reducible refine Below.drew ?_ | with_reducible refine Below.setCell ?_ ?_ _ | with_reducible refine Below.alloc ?_ ?_ _ | omega | (simp; done) | (simp; omega))).mono ?_
  rintro e w1 ⟨rfl, hb1⟩
  have b1 := HBx.out.below hb1
  have B1 : Below w.heap.size w w1 := belows (B := w.heap.size) (a := w) (by repeat' first | with_reducible exact Below.refl _ _ | with_reducible assumption | with_reducible refine belows_drewN ?_ _ | with_reducible refine Below.drew ?_ | with_reducible refine Below.setCell ?_ ?_ _ | with_reducible refine Below.alloc ?_ ?_ _ | omega | (simp; done) | (simp; omega)) hb1 (by simp)
  have hs1 := b1.sz
  have e5 := b1.cell 5
  simp at e5
  go_wp2_with fail
  refine (HD1.out _ (by repeat' first | with_reducible exact Below.refl _ _ | with_reducible assumption | with_reducible refine belows_drewN ?_ _ | with_reducible refine Below.drew ?_ | with_reducible refine Below.setCell ?_ ?_ _ | with_reducible refine Below.alloc ?_ ?_ _ | omega | (simp; done) | (simp; omega))).mono ?_
  rintro e w2 ⟨rfl, hb2⟩
  have b2 := b1.below hb2
  have B2 := belows B1 hb2 B1.size
  have hs2 := b2.sz
  clear e5
  have e5 := b2.cell 5
  simp at e5
  go_wp2_with fail
  refine (HP2.out _ (by repeat' first | with_reducible exact Below.refl _ _ | with_reducible assumption | with_reducible refine belows_drewN ?_ _ | with_reducible refine Below.drew ?_ | with_reducible refine Below.setCell ?_ ?_ _ | with_reducible refine Below.alloc ?_ ?_ _ | omega | (simp; done) | (simp; omega))).mono ?_
  rintro e w3 ⟨rfl, hb3⟩
  have b3 := b2.below hb3
  have B3 := belows B2 hb3 B2.size
  have hs3 := b3.sz
  clear e5
  have e5 := b3.cell 5
  simp at e5
  go_wp2_with fail
  refine (HD2.out _ (by repeat' first | with_reducible exact Below.refl _ _ | with_reducible assumption | with_reducible refine belows_drewN ?_ _ | with_reducible refine Below.drew ?_ | with_reducible refine Below.setCell ?_ ?_ _ | with_reducible refine Below.alloc ?_ ?_ _ | omega | (simp; done) | (simp; omega))).mono ?_
  rintro e w4 ⟨rfl, hb4⟩
  have b4 := b3.below hb4
  have B4 := belows B3 hb4 B3.size
  have hs4 := b4.sz
  clear e5
  have e5 := b4.cell 5
  simp at e5
  go_wp2_with fail
  refine (HP3.out _ (by repeat' first | with_reducible exact Below.refl _ _ | with_reducible assumption | with_reducible refine belows_drewN ?_ _ | with_reducible refine Below.drew ?_ | with_reducible refine Below.setCell ?_ ?_ _ | with_reducible refine Below.alloc ?_ ?_ _ | omega | (simp; done) | (simp; omega))).mono ?_
  rintro e w5 ⟨rfl, hb5⟩
  have b5 := b4.below hb5
  have B5 := belows B4 hb5 B4.size
  have hs5 := b5.sz
  clear e5
  have e5 := b5.cell 5
  simp at e5
  go_wp2_with fail
  refine (HD3.out _ (by repeat' first | with_reducible exact Below.refl _ _ | with_reducible assumption | with_reducible refine belows_drewN ?_ _ | with_reducible refine Below.drew ?_ | with_reducible refine Below.setCell ?_ ?_ _ | with_reducible refine Below.alloc ?_ ?_ _ | omega | (simp; done) | (simp; omega))).mono ?_
  rintro e w6 ⟨rfl, hb6⟩
  have b6 := (BX.new w5 #[.int .i64 tk, .string tt] 33).below hb6
  have v0 := b6.cell 0
  have v1 := b6.cell 1
  simp at v0 v1
  have hs6 := b6.sz
  have B6 : Below w.heap.size w w6 := belows (belows B5 ((Below.refl _ w5).alloc (Nat.le_refl _) _) B5.size) hb6 (by have := B5.size; simp; omega)
  have hz6 := B6.size
  clear hb1 hb2 hb3 hb4 hb5 hb6 b1 b2 b3 b4 b5 b6 e5
  go_wp2
  go_ret2
  exact ⟨H, rv, s, by rw [← HHb.out]; rfl, HN.out _ (by repeat' first | with_reducible exact Below.refl _ _ | with_reducible assumption | with_reducible refine belows_drewN ?_ _ | with_reducible refine Below.drew ?_ | with_reducible refine Below.setCell ?_ ?_ _ | with_reducible refine Below.alloc ?_ ?_ _ | omega | (simp; done) | (simp; omega)), HOk.out⟩
end Go.Proofs.Ythembnakeikmeaa
namespace Go.Proofs.Ythembnakeikmeaa
open Go Go.RowKit

theorem rset_two {W0 X : World} {H : HV} {rb : Nat} {rv : Value} {sp s : Hp.Hs} {x : Hp.Op} {kv : Value} (t : Two W0 X H rb rv sp s) (ok : s.Ok) (g : ArgO W0 x kv) :
    Calls Try.prog 30 #[.pointer (some ⟨rb, 0, none⟩), .int .i64 x.ref, .int .i64 x.i, vA x.v] X fun e w' => e = .returned (.int .i64 (s.se x.ref x.i x.v).2) ∧ RWent X w' W0.heap.size H.foot rb rv rv (s.se x.ref x.i x.v).1 := by
  obtain ⟨_, hr⟩ := t.ref
  exact rset_any hr ok t.foot x.ref x.i x.v g.good.ref
theorem rstore_two {W0 X : World} {H : HV} {rb : Nat} {rv : Value} {sp s : Hp.Hs} {x : Hp.Op} {kv : Value} (t : Two W0 X H rb rv sp s) (ok : s.Ok) (g : ArgO W0 x kv) :
    Calls Try.prog 32 #[.pointer (some ⟨rb, 0, none⟩), .int .i64 x.ref, .int .i64 x.i, vA x.v] X fun e w' => e = .returned (.int .i64 (s.st x.ref x.i x.v).2) ∧ RWent X w' W0.heap.size H.foot rb rv rv (s.st x.ref x.i x.v).1 := by
  obtain ⟨_, hr⟩ := t.ref
  exact rstore_any hr ok t.foot x.ref x.i x.v g.good.ref
set_option maxRecDepth 100000 in
set_option maxHeartbeats 4000000 in
theorem step_set {W0 w : World} {H : HV} {rb : Nat} {rv : Value} {s : Hp.Hs} {x : Hp.Op} {kv : Value} (h : Two W0 w H rb rv s s) (ok : s.Ok) (g : ArgO W0 x kv) (hf : x.f = 3) :
    Calls Try.prog 10 #[.pointer (some ⟨H.hb, 0, none⟩), .pointer (some ⟨rb, 0, none⟩), .agg (opA x kv)] w (StPost W0 rb) := by
  obtain ⟨rs, hr⟩ := h.ref
  have hl := l_small ok
  have HBx := hid (BX.new w (opA x kv) 37)
  have HN := hid (fun X (k : Below w.heap.size w X) => h.next k)
  have HOk := hid ok
  obtain ⟨hbH, hhb⟩ : ∃ b, b = H.hb := ⟨_, rfl⟩
  have HHb := hid hhb
  obtain ⟨o, ho⟩ : ∃ o, o = s.se x.ref x.i x.v := ⟨_, rfl⟩
  have HO1 : Hid (o.1.Ok) := hid (by rw [ho]; exact Hp.se_ok ok _ _ _)
  have HT := hid (h.next ((Below.refl _ _).alloc (Nat.le_refl _) (.cells (opA x kv) 37)))
  have HP := hid (fun (X : World) (rv1 : Value) (sr : Hp.Hs) (t : Two W0 X H rb rv1 s sr) => Set_any t.rep ok x.ref x.i x.v g.good.ref)
  have HD := hid (fun (X : World) (sp : Hp.Hs) (t : Two W0 X H rb rv sp s) => rset_two t ok g)
  simp only [← ho, ← hhb] at HP HD
  have HS := hid h
  obtain ⟨xf, xc, xts, xel, xref, xi, xv⟩ := x
  simp only at hf
  subst hf
  rw [← hhb]
  unfold opA at *
  unfold StPost at *
  unfold vA at HP HD
  obtain ⟨s1, oe⟩ := o
  dsimp only at *
  have b0 := HBx.out
  have e5 := b0.cell 5
  have e6 := b0.cell 6
  have e7 := b0.cell 7
  have e8 := b0.cell 8
  simp at e5 e6 e7 e8
  clear b0
  clear h ok g ho hr hl hhb
  go_enter Try.func10, Try.ntmps10
  go_wp2_with fail
  go_region_held3 (fun w' => w'.cell? ⟨w.heap.size, 5, none⟩ = some (.int .i64 xref) ∧ w'.cell? ⟨w.heap.size, 6, none⟩ = some (.int .i64 xi) ∧ w'.cell? ⟨w.heap.size, 7, none⟩ = some (.int .i64 xv.k) ∧ w'.cell? ⟨w.heap.size, 8, none⟩ = some (.int .i64 xv.n)) (first | exact ⟨e5, e6, e7, e8⟩ | go_keep)
    (first
    | (go_at_call 24; have _g := HTd; refine (HP.out _ _ _ (HTd.out.next (by repeat' first | with_reducible exact Below.refl _ _ | with_reducible assumption | with_reducible refine belows_drewN ?_ _ | with_reducible refine Below.drew ?_ | with_reducible refine Below.setCell ?_ ?_ _ | with_reducible refine Below.alloc ?_ ?_ _ | omega | (simp; done) | (simp; omega)))).mono ?_; rintro e w2 ⟨rfl, hW2⟩; have HTE := hid ((HTd.out.next (by repeat' first | with_reducible exact Below.refl _ _ | with_reducible assumption | with_reducible refine belows_drewN ?_ _ | with_reducible refine Below.drew ?_ | with_reducible refine Below.setCell ?_ ?_ _ | with_reducible refine Below.alloc ?_ ?_ _ | omega | (simp; done) | (simp; omega))).prog hW2); have b2 := HS.out.box_prog hW2 (Nat.le_refl _) (HBd.out.below (by repeat' first | with_reducible exact Below.refl _ _ | with_reducible assumption | with_reducible refine belows_drewN ?_ _ | with_reducible refine Below.drew ?_ | with_reducible refine Below.setCell ?_ ?_ _ | with_reducible refine Below.alloc ?_ ?_ _ | omega | (simp; done) | (simp; omega))); clear e5 e6 e7 e8; have e5 := b2.cell 5; have e6 := b2.cell 6; have e7 := b2.cell 7; have e8 := b2.cell 8; simp at e5 e6 e7 e8; clear b2 hW2 HTd)
    | (go_at_call 30; have _g := HTp; refine (HD.out _ _ (HTp.out.next (by repeat' first | with_reducible exact Below.refl _ _ | with_reducible assumption | with_reducible refine belows_drewN ?_ _ | with_reducible refine Below.drew ?_ | with_reducible refine Below.setCell ?_ ?_ _ | with_reducible refine Below.alloc ?_ ?_ _ | omega | (simp; done) | (simp; omega)))).mono ?_; rintro e w2 ⟨rfl, hW2⟩; have HTE := hid ((HTp.out.next (by repeat' first | with_reducible exact Below.refl _ _ | with_reducible assumption | with_reducible refine belows_drewN ?_ _ | with_reducible refine Below.drew ?_ | with_reducible refine Below.setCell ?_ ?_ _ | with_reducible refine Below.alloc ?_ ?_ _ | omega | (simp; done) | (simp; omega))).doc hW2); have b2 := HS.out.box_doc hW2 (Nat.le_refl _) (HBp.out.below (by repeat' first | with_reducible exact Below.refl _ _ | with_reducible assumption | with_reducible refine belows_drewN ?_ _ | with_reducible refine Below.drew ?_ | with_reducible refine Below.setCell ?_ ?_ _ | with_reducible refine Below.alloc ?_ ?_ _ | omega | (simp; done) | (simp; omega))); clear e5 e6 e7 e8; have e5 := b2.cell 5; have e6 := b2.cell 6; have e7 := b2.cell 7; have e8 := b2.cell 8; simp at e5 e6 e7 e8; clear b2 hW2 HTp)
    | (go_at_call 24; refine (HP.out _ _ _ (HT.out.next (by repeat' first | with_reducible exact Below.refl _ _ | with_reducible assumption | with_reducible refine belows_drewN ?_ _ | with_reducible refine Below.drew ?_ | with_reducible refine Below.setCell ?_ ?_ _ | with_reducible refine Below.alloc ?_ ?_ _ | omega | (simp; done) | (simp; omega)))).mono ?_; rintro e w1 ⟨rfl, hW1⟩; have HTp := hid ((HT.out.next (by repeat' first | with_reducible exact Below.refl _ _ | with_reducible assumption | with_reducible refine belows_drewN ?_ _ | with_reducible refine Below.drew ?_ | with_reducible refine Below.setCell ?_ ?_ _ | with_reducible refine Below.alloc ?_ ?_ _ | omega | (simp; done) | (simp; omega))).prog hW1); have b1 := HS.out.box_prog hW1 (Nat.le_refl _) (HBx.out.below (by repeat' first | with_reducible exact Below.refl _ _ | with_reducible assumption | with_reducible refine belows_drewN ?_ _ | with_reducible refine Below.drew ?_ | with_reducible refine Below.setCell ?_ ?_ _ | with_reducible refine Below.alloc ?_ ?_ _ | omega | (simp; done) | (simp; omega))); have HBp := hid b1; clear e5 e6 e7 e8; have e5 := b1.cell 5; have e6 := b1.cell 6; have e7 := b1.cell 7; have e8 := b1.cell 8; simp at e5 e6 e7 e8; clear b1 hW1)
    | (go_at_call 30; refine (HD.out _ _ (HT.out.next (by repeat' first | with_reducible exact Below.refl _ _ | with_reducible assumption | with_reducible refine belows_drewN ?_ _ | with_reducible refine Below.drew ?_ | with_reducible refine Below.setCell ?_ ?_ _ | with_reducible refine Below.alloc ?_ ?_ _ | omega | (simp; done) | (simp; omega)))).mono ?_; rintro e w1 ⟨rfl, hW1⟩; have HTd := hid ((HT.out.next (by repeat' first | with_reducible exact Below.refl _ _ | with_reducible assumption | with_reducible refine belows_drewN ?_ _ | with_reducible refine Below.drew ?_ | with_reducible refine Below.setCell ?_ ?_ _ | with_reducible refine Below.alloc ?_ ?_ _ | omega | (simp; done) | (simp; omega))).doc hW1); have b1 := HS.out.box_doc hW1 (Nat.le_refl _) (HBx.out.below (by repeat' first | with_reducible exact Below.refl _ _ | with_reducible assumption | with_reducible refine belows_drewN ?_ _ | with_reducible refine Below.drew ?_ | with_reducible refine Below.setCell ?_ ?_ _ | with_reducible refine Below.alloc ?_ ?_ _ | omega | (simp; done) | (simp; omega))); have HBd := hid b1; clear e5 e6 e7 e8; have e5 := b1.cell 5; have e6 := b1.cell 6; have e7 := b1.cell 7; have e8 := b1.cell 8; simp at e5 e6 e7 e8; clear b1 hW1))
  all_goals
    go_wp2
    go_ret2
    exact ⟨H, rv, s1, by rw [← HHb.out]; rfl, HTE.out.next (by repeat' first | with_reducible exact Below.refl _ _ | with_reducible assumption | with_reducible refine belows_drewN ?_ _ | with_reducible refine Below.drew ?_ | with_reducible refine Below.setCell ?_ ?_ _ | with_reducible refine Below.alloc ?_ ?_ _ | omega | (simp; done) | (simp; omega)), HO1.out⟩
set_option maxRecDepth 100000 in
set_option maxHeartbeats 4000000 in
theorem step_store {W0 w : World} {H : HV} {rb : Nat} {rv : Value} {s : Hp.Hs} {x : Hp.Op} {kv : Value} (h : Two W0 w H rb rv s s) (ok : s.Ok) (g : ArgO W0 x kv) (hf : x.f = 5) :
    Calls Try.prog 10 #[.pointer (some ⟨H.hb, 0, none⟩), .pointer (some ⟨rb, 0, none⟩), .agg (opA x kv)] w (StPost W0 rb) := by
  obtain ⟨rs, hr⟩ := h.ref
  have hl := l_small ok
  have HBx := hid (BX.new w (opA x kv) 37)
  have HN := hid (fun X (k : Below w.heap.size w X) => h.next k)
  have HOk := hid ok
  obtain ⟨hbH, hhb⟩ : ∃ b, b = H.hb := ⟨_, rfl⟩
  have HHb := hid hhb
  obtain ⟨o, ho⟩ : ∃ o, o = s.st x.ref x.i x.v := ⟨_, rfl⟩
  have HO1 : Hid (o.1.Ok) := hid (by rw [ho]; exact Hp.st_ok ok _ _ _)
  have HT := hid (h.next ((Below.refl _ _).alloc (Nat.le_refl _) (.cells (opA x kv) 37)))
  have HP := hid (fun (X : World) (rv1 : Value) (sr : Hp.Hs) (t : Two W0 X H rb rv1 s sr) => Store_any t.rep ok x.ref x.i x.v g.good.ref)
  have HD := hid (fun (X : World) (sp : Hp.Hs) (t : Two W0 X H rb rv sp s) => rstore_two t ok g)
  simp only [← ho, ← hhb] at HP HD
  have HS := hid h
  obtain ⟨xf, xc, xts, xel, xref, xi, xv⟩ := x
  simp only at hf
  subst hf
  rw [← hhb]
  unfold opA at *
  unfold StPost at *
  unfold vA at HP HD
  obtain ⟨s1, oe⟩ := o
  dsimp only at *
  have b0 := HBx.out
  have e5 := b0.cell 5
  have e6 := b0.cell 6
  have e7 := b0.cell 7
  have e8 := b0.cell 8
  simp at e5 e6 e7 e8
  clear b0
  clear h ok g ho hr hl hhb
  go_enter Try.func10, Try.ntmps10
  go_wp2_with fail
  go_region_held3 (fun w' => w'.cell? ⟨w.heap.size, 5, none⟩ = some (.int .i64 xref) ∧ w'.cell? ⟨w.heap.size, 6, none⟩ = some (.int .i64 xi) ∧ w'.cell? ⟨w.heap.size, 7, none⟩ = some (.int .i64 xv.k) ∧ w'.cell? ⟨w.heap.size, 8, none⟩ = some (.int .i64 xv.n)) (first | exact ⟨e5, e6, e7, e8⟩ | go_keep)
    (first
    | (go_at_call 15; have _g := HTd; refine (HP.out _ _ _ (HTd.out.next (by repeat' first | with_reducible exact Below.refl _ _ | with_reducible assumption | with_reducible refine belows_drewN ?_ _ | with_reducible refine Below.drew ?_ | with_reducible refine Below.setCell ?_ ?_ _ | with_reducible refine Below.alloc ?_ ?_ _ | omega | (simp; done) | (simp; omega)))).mono ?_; rintro e w2 ⟨rfl, hW2⟩; have HTE := hid ((HTd.out.next (by repeat' first | with_reducible exact Below.refl _ _ | with_reducible assumption | with_reducible refine belows_drewN ?_ _ | with_reducible refine Below.drew ?_ | with_reducible refine Below.setCell ?_ ?_ _ | with_reducible refine Below.alloc ?_ ?_ _ | omega | (simp; done) | (simp; omega))).prog hW2); have b2 := HS.out.box_prog hW2 (Nat.le_refl _) (HBd.out.below (by repeat' first | with_reducible exact Below.refl _ _ | with_reducible assumption | with_reducible refine belows_drewN ?_ _ | with_reducible refine Below.drew ?_ | with_reducible refine Below.setCell ?_ ?_ _ | with_reducible refine Below.alloc ?_ ?_ _ | omega | (simp; done) | (simp; omega))); clear e5 e6 e7 e8; have e5 := b2.cell 5; have e6 := b2.cell 6; have e7 := b2.cell 7; have e8 := b2.cell 8; simp at e5 e6 e7 e8; clear b2 hW2 HTd)
    | (go_at_call 32; have _g := HTp; refine (HD.out _ _ (HTp.out.next (by repeat' first | with_reducible exact Below.refl _ _ | with_reducible assumption | with_reducible refine belows_drewN ?_ _ | with_reducible refine Below.drew ?_ | with_reducible refine Below.setCell ?_ ?_ _ | with_reducible refine Below.alloc ?_ ?_ _ | omega | (simp; done) | (simp; omega)))).mono ?_; rintro e w2 ⟨rfl, hW2⟩; have HTE := hid ((HTp.out.next (by repeat' first | with_reducible exact Below.refl _ _ | with_reducible assumption | with_reducible refine belows_drewN ?_ _ | with_reducible refine Below.drew ?_ | with_reducible refine Below.setCell ?_ ?_ _ | with_reducible refine Below.alloc ?_ ?_ _ | omega | (simp; done) | (simp; omega))).doc hW2); have b2 := HS.out.box_doc hW2 (Nat.le_refl _) (HBp.out.below (by repeat' first | with_reducible exact Below.refl _ _ | with_reducible assumption | with_reducible refine belows_drewN ?_ _ | with_reducible refine Below.drew ?_ | with_reducible refine Below.setCell ?_ ?_ _ | with_reducible refine Below.alloc ?_ ?_ _ | omega | (simp; done) | (simp; omega))); clear e5 e6 e7 e8; have e5 := b2.cell 5; have e6 := b2.cell 6; have e7 := b2.cell 7; have e8 := b2.cell 8; simp at e5 e6 e7 e8; clear b2 hW2 HTp)
    | (go_at_call 15; refine (HP.out _ _ _ (HT.out.next (by repeat' first | with_reducible exact Below.refl _ _ | with_reducible assumption | with_reducible refine belows_drewN ?_ _ | with_reducible refine Below.drew ?_ | with_reducible refine Below.setCell ?_ ?_ _ | with_reducible refine Below.alloc ?_ ?_ _ | omega | (simp; done) | (simp; omega)))).mono ?_; rintro e w1 ⟨rfl, hW1⟩; have HTp := hid ((HT.out.next (by repeat' first | with_reducible exact Below.refl _ _ | with_reducible assumption | with_reducible refine belows_drewN ?_ _ | with_reducible refine Below.drew ?_ | with_reducible refine Below.setCell ?_ ?_ _ | with_reducible refine Below.alloc ?_ ?_ _ | omega | (simp; done) | (simp; omega))).prog hW1); have b1 := HS.out.box_prog hW1 (Nat.le_refl _) (HBx.out.below (by repeat' first | with_reducible exact Below.refl _ _ | with_reducible assumption | with_reducible refine belows_drewN ?_ _ | with_reducible refine Below.drew ?_ | with_reducible refine Below.setCell ?_ ?_ _ | with_reducible refine Below.alloc ?_ ?_ _ | omega | (simp; done) | (simp; omega))); have HBp := hid b1; clear e5 e6 e7 e8; have e5 := b1.cell 5; have e6 := b1.cell 6; have e7 := b1.cell 7; have e8 := b1.cell 8; simp at e5 e6 e7 e8; clear b1 hW1)
    | (go_at_call 32; refine (HD.out _ _ (HT.out.next (by repeat' first | with_reducible exact Below.refl _ _ | with_reducible assumption | with_reducible refine belows_drewN ?_ _ | with_reducible refine Below.drew ?_ | with_reducible refine Below.setCell ?_ ?_ _ | with_reducible refine Below.alloc ?_ ?_ _ | omega | (simp; done) | (simp; omega)))).mono ?_; rintro e w1 ⟨rfl, hW1⟩; have HTd := hid ((HT.out.next (by repeat' first | with_reducible exact Below.refl _ _ | with_reducible assumption | with_reducible refine belows_drewN ?_ _ | with_reducible refine Below.drew ?_ | with_reducible refine Below.setCell ?_ ?_ _ | with_reducible refine Below.alloc ?_ ?_ _ | omega | (simp; done) | (simp; omega))).doc hW1); have b1 := HS.out.box_doc hW1 (Nat.le_refl _) (HBx.out.below (by repeat' first | with_reducible exact Below.refl _ _ | with_reducible assumption | with_reducible refine belows_drewN ?_ _ | with_reducible refine Below.drew ?_ | with_reducible refine Below.setCell ?_ ?_ _ | with_reducible refine Below.alloc ?_ ?_ _ | omega | (simp; done) | (simp; omega))); have HBd := hid b1; clear e5 e6 e7 e8; have e5 := b1.cell 5; have e6 := b1.cell 6; have e7 := b1.cell 7; have e8 := b1.cell 8; simp at e5 e6 e7 e8; clear b1 hW1))
  all_goals
    go_wp2
    go_ret2
    exact ⟨H, rv, s1, by rw [← HHb.out]; rfl, HTE.out.next (by repeat' first | with_reducible exact Below.refl _ _ | with_reducible assumption | with_reducible refine belows_drewN ?_ _ | with_reducible refine Below.drew ?_ | with_reducible refine Below.setCell ?_ ?_ _ | with_reducible refine Below.alloc ?_ ?_ _ | omega | (simp; done) | (simp; omega)), HO1.out⟩
end Go.Proofs.Ythembnakeikmeaa
namespace Go.Proofs.Ythembnakeikmeaa
open Go Go.RowKit

theorem Two.clone {W0 w w1 w2 w3 : World} {H H2 H' : HV} {rb : Nat} {rv : Value} {s s' : Hp.Hs} (h : Two W0 w H rb rv s s) (c : Rep w1 w.heap.size H2 s.flat) (b : Below w.heap.size w w1) (b2 : Below w1.heap.size w1 w2) (k : Went w2 w3 W0.heap.size H H' s'.flat) : Two W0 w3 H2 rb rv s s := by
  obtain ⟨rs, hr⟩ := h.ref
  have c2 := c.below b2
  have B2 := belows b b2 b.size
  have hc : Chg H.foot w w3 := (Chg.of_below B2).trans k.chg (fun i hi => .inl hi)
  refine ⟨h.below.trans (hc.to_below (fun i hi => (h.rep.low i hi).1) h.below.size), (c2.chg k.chg (fun i h2 h1 => ?_)).mono h.below.size, rs, hr.chg hc (fun i _ hi => .inl hi) (fun i hi hf => ?_)⟩
  · have e1 := (c2.low i h2).1
    have e2 := (h.rep.low i h1).2
    omega
  · have e1 := (c2.low i hf).1
    omega
set_option maxRecDepth 100000 in
set_option maxHeartbeats 4000000 in
theorem step_clone {W0 w : World} {H : HV} {rb : Nat} {rv : Value} {s : Hp.Hs} {x : Hp.Op} {kv : Value} (h : Two W0 w H rb rv s s) (ok : s.Ok) (g : ArgO W0 x kv) (hf : x.f = 7) :
    Calls Try.prog 10 #[.pointer (some ⟨H.hb, 0, none⟩), .pointer (some ⟨rb, 0, none⟩), .agg (opA x kv)] w (StPost W0 rb) := by
  obtain ⟨rs, hr⟩ := h.ref
  have HBx := hid (BX.new w (opA x kv) 37)
  have HN := hid (fun X (k : Below w.heap.size w X) => h.next k)
  have HOk := hid ok
  obtain ⟨hbH, hhb⟩ : ∃ b, b = H.hb := ⟨_, rfl⟩
  have HHb := hid hhb
  have HTb := hid (h.next ((Below.refl _ _).alloc (Nat.le_refl _) (.cells (opA x kv) 37)))
  obtain ⟨o1, ho1⟩ : ∃ o, o = s.se x.ref x.i x.v := ⟨_, rfl⟩
  have hk1 : o1.1.Ok := by rw [ho1]; exact Hp.se_ok ok _ _ _
  obtain ⟨o2, ho2⟩ : ∃ o, o = o1.1.st x.ref x.i x.v := ⟨_, rfl⟩
  have hk2 : o2.1.Ok := by rw [ho2]; exact Hp.st_ok hk1 _ _ _
  obtain ⟨o3, ho3⟩ : ∃ o, o = o2.1.obj 0 [] := ⟨_, rfl⟩
  have HC := hid (clone_any HTb.out.rep ok)
  have HSm := hid (fun (X : World) (b1 b2 : Nat) (Ha Hb : HV) (ra : Rep X b1 Ha s.flat) (rb : Rep X b2 Hb s.flat) => same_any ra rb ok)
  have HSe := hid (fun (X : World) (r : Rep X W0.heap.size H s.flat) => Set_any r ok x.ref x.i x.v g.good.ref)
  have HSt := hid (fun (X : World) (r : Rep X W0.heap.size H o1.1.flat) => Store_any r hk1 x.ref x.i x.v g.good.ref)
  have HOb := hid (fun (X : World) (r : Rep X W0.heap.size H o2.1.flat) => Object_any r hk2 0 [] (.slice none 0 0) ⟨rfl, by decide, .inl ⟨rfl, none, 0, rfl⟩⟩)
  simp only [← ho1, ← ho2, ← ho3, ← hhb] at HC HSe HSt HOb
  have HS := hid h
  obtain ⟨xf, xc, xts, xel, xref, xi, xv⟩ := x
  simp only at hf
  subst hf
  rw [← hhb]
  unfold opA at *
  unfold StPost at *
  unfold vA at HSe HSt
  unfold OutPost at HOb
  dsimp only at *
  clear h ok g ho1 ho2 ho3 hk1 hk2 hr hhb
  go_enter Try.func10, Try.ntmps10
  go_wp2_with fail
  refine HC.out.mono ?_
  rintro e w1 ⟨H2, rfl, hc1, hb1⟩
  have HRp := hid (HTb.out.rep.below hb1)
  have b1 := HBx.out.below hb1
  have HSm1 := hid (HSm.out w1 _ _ _ _ hc1 HRp.out)
  rw [← HHb.out] at HSm1
  obtain ⟨hb2, hh2⟩ : ∃ b, b = H2.hb := ⟨_, rfl⟩
  rw [← hh2] at HSm1 ⊢
  have HH2 := hid hh2
  have HC1 := hid hc1
  have HB1 := hid hb1
  clear hc1 hb1 hh2 HSm HC
  go_wp2_with fail
  refine HSm1.out.mono ?_
  rintro e w2 ⟨rfl, hbb⟩
  have HR2 := hid (HRp.out.below hbb)
  have b2 := b1.below hbb
  have HB2 := hid hbb
  have HSe2 := hid (HSe.out w2 HR2.out)
  have e5 := b2.cell 5
  have e6 := b2.cell 6
  have e7 := b2.cell 7
  have e8 := b2.cell 8
  simp at e5 e6 e7 e8
  clear hbb b1 HSm1 HSe
  go_wp2_with fail
  refine HSe2.out.mono ?_
  rintro e w3 ⟨rfl, hW3⟩
  have b3 := HS.out.box_prog hW3 (Nat.le_refl _) b2
  have HSt3 := hid (HSt.out w3 hW3.rep)
  have HW3 := hid hW3
  clear hW3 b2 HSe2 HSt e5 e6 e7 e8
  have e5 := b3.cell 5
  have e6 := b3.cell 6
  have e7 := b3.cell 7
  have e8 := b3.cell 8
  simp at e5 e6 e7 e8
  go_wp2_with fail
  refine HSt3.out.mono ?_
  rintro e w4 ⟨rfl, hW4⟩
  have HOb4 := hid (HOb.out w4 hW4.rep)
  have HW4 := hid (HW3.out.trans hW4)
  clear hW4 b3 HSt3 HOb e5 e6 e7 e8
  go_wp2_with fail
  refine HOb4.out.mono ?_
  rintro e w5 ⟨H5, rfl, hW5⟩
  have HW5 := hid (HW4.out.trans hW5)
  clear hW5 HOb4
  go_wp2
  go_ret2
  exact ⟨H2, rv, s, by rw [← HH2.out]; rfl, HTb.out.clone HC1.out HB1.out HB2.out HW5.out, HOk.out⟩
end Go.Proofs.Ythembnakeikmeaa
namespace Go.Proofs.Ythembnakeikmeaa
open Go Go.RowKit

theorem step_any {W0 w : World} {H : HV} {rb : Nat} {rv : Value} {s : Hp.Hs} {x : Hp.Op} {kv : Value} (h : Two W0 w H rb rv s s) (ok : s.Ok) (g : ArgO W0 x kv) :
    Calls Try.prog 10 #[.pointer (some ⟨H.hb, 0, none⟩), .pointer (some ⟨rb, 0, none⟩), .agg (opA x kv)] w (StPost W0 rb) := by
  by_cases h0 : x.f = 0
  · exact step_obj h ok g h0
  by_cases h1 : x.f = 1
  · exact step_arr h ok g h1
  by_cases h2 : x.f = 2
  · exact step_get h ok g h2
  by_cases h3 : x.f = 3
  · exact step_set h ok g h3
  by_cases h4 : x.f = 4
  · exact step_load h ok g h4
  by_cases h5 : x.f = 5
  · exact step_store h ok g h5
  by_cases h7 : x.f = 7
  · exact step_clone h ok g h7
  exact step_looks h ok g (by simpa using h0) (by simpa using h1) (by simpa using h2) (by simpa using h3) (by simpa using h4) (by simpa using h5) (by simpa using h7)
section
variable {w : World} {base : Nat} {H : HV} {s : Hp.Hs}
theorem used_b (h : Rep w base H s.flat) (ok : s.Ok) : Calls Try.prog 11 #[.pointer (some ⟨H.hb, 0, none⟩)] w fun e w' => e = .returned (.int .i64 (s.used : Int)) ∧ Below w.heap.size w w' := by
  have e := flat_used s
  refine (Used_any h (by have := ok.sizes; omega)).mono ?_
  rintro e' w' ⟨rfl, m, rfl⟩
  refine ⟨?_, below_drewN w m⟩
  congr 2
  omega
theorem limit_b (h : Rep w base H s.flat) : Calls Try.prog 18 #[.pointer (some ⟨H.hb, 0, none⟩)] w fun e w' => e = .returned (.int .i64 (s.lim : Int)) ∧ Below w.heap.size w w' := by
  refine (Limit_any h).mono ?_
  rintro e' w' ⟨rfl, rfl⟩
  exact ⟨rfl, Below.refl _ _⟩
theorem many_b (h : Rep w base H s.flat) : Calls Try.prog 17 #[.pointer (some ⟨H.hb, 0, none⟩)] w fun e w' => e = .returned (.int .i64 (s.l.length : Int)) ∧ Below w.heap.size w w' := by
  refine (Many_any h).mono ?_
  rintro e' w' ⟨rfl, rfl⟩
  rw [flat_cs]
  exact ⟨rfl, Below.refl _ _⟩
end
theorem thing_nth {s : Hp.Hs} {k : Nat} {t : Hp.Th} (h : s.l[k]? = some t) : s.thing ((k : Int) + 1) = some t := by
  unfold Hp.Hs.thing
  rw [if_pos (by omega), show ((k : Int) + 1 - 1).toNat = k by omega, h]
set_option maxRecDepth 100000 in
set_option maxHeartbeats 4000000 in
theorem equal_any {W0 w : World} {H : HV} {rb : Nat} {rv : Value} {s : Hp.Hs} (h : Two W0 w H rb rv s s) (ok : s.Ok) :
    Calls Try.prog 13 #[.pointer (some ⟨H.hb, 0, none⟩), .pointer (some ⟨rb, 0, none⟩)] w fun e w' => e = .returned (.bool true) ∧ Below w.heap.size w w' := by
  obtain ⟨rs, hr⟩ := h.ref
  obtain ⟨x0, x1, hb⟩ := ref_box hr
  have hl := l_small ok
  have HU := hid (fun d os => Calls.regrown_of (d := d) (os := os) (w := w) (used_b (h.rep.below (below_regrown w d os)) ok))
  have HL := hid (fun d os => Calls.regrown_of (d := d) (os := os) (w := w) (limit_b (h.rep.below (below_regrown w d os))))
  have HM := hid (fun d os => Calls.regrown_of (d := d) (os := os) (w := w) (many_b (h.rep.below (below_regrown w d os))))
  have HV := hid (fun d os => Calls.regrown_of (d := d) (os := os) (w := w) (rused_any (hr.below (below_regrown w d os)) ok))
  obtain ⟨ra, rc, hrv⟩ := own_form hr.row
  have HRv := hid hrv
  rw [hrv] at x1
  have q0 := fun d os => cell_regrown x0 d os
  have q1 := fun d os => cell_regrown x1 d os
  have HR := hid (fun X (b : Below w.heap.size w X) => hr.below b)
  have HP := hid (fun X (b : Below w.heap.size w X) => h.rep.below b)
  have HOk := hid ok
  obtain ⟨n, hn⟩ : ∃ n, n = s.l.length := ⟨_, rfl⟩
  have HN := hid hn
  rw [← hn] at x1 q1 hl HRv HM
  obtain ⟨hbH, hhb⟩ : ∃ b, b = H.hb := ⟨_, rfl⟩
  have HHb := hid hhb
  rw [← hhb] at HU HL HM ⊢
  clear h hr ok hrv hn hhb
  go_enter Try.func13, Try.ntmps13
  go_wp2_with fail
  refine wp_region_quiet_below (by kernel_rfl) (by kernel_rfl) ?_
  (iterate 24 (go_big_quiet_step ((first | with_reducible exact HU.out _ _ | with_reducible exact HL.out _ _ | with_reducible exact HM.out _ _ | with_reducible exact HV.out _ _))))
  refine wpQuiet_nil ?_
  intro W2 hw'
  obtain ⟨⟨dq, osq⟩, hw''⟩ := hw'
  have hbq := below_regrown w dq osq
  rw [← hw''] at hbq
  clear hw'' q0 q1 HU HL HM HV
  have y1 := (hbq.cell (p := ⟨rb, 1, none⟩) hb).trans x1
  go_wp2_with fail
  go_loopw [40] (fun i wr => ∃ j : Nat, j ≤ n ∧ i = .int .i64 (j : Int) ∧ Hid (Below w.heap.size w wr)) (fun i _ => n - (intOf i).toNat)
  case atStart => exact ⟨0, by omega, rfl, hbq⟩
  case round =>
    obtain ⟨j, hj, rfl, HB⟩ := hrel
    clear hbq y1 x0 x1
    by_cases hlt : j < n
    · obtain ⟨t, hk⟩ : ∃ t, s.l[j]? = some t := ⟨s.l[j]'(by have := HN.out; omega), List.getElem?_eq_getElem (by have := HN.out; omega)⟩
      obtain ⟨g, c, tv, cv, hv, hg, htv, hcv, -, -, c0, c1, c2, c3, c4, c5⟩ := ref_at (HR.out wr HB.out) hk
      rw [HRv.out, ← HN.out] at hv
      obtain ⟨rfl, -, rfl⟩ := Value.slice.inj hv
      obtain ⟨va, vc, rfl⟩ := own_form hcv
      have hvl := vs_small HOk.out hk
      obtain ⟨ta, tn, tc, rfl⟩ : ∃ a m c, tv = .slice a m c := by
        rcases htv with ⟨-, e⟩ | ⟨-, e⟩
        · exact ⟨none, 0, 0, e⟩
        · obtain ⟨a, c, e2⟩ := own_form e
          exact ⟨a, _, c, e2⟩
      have HK := hid hk
      have HCv := hid hcv
      have i1 : (j : Int) < (n : Int) := by omega
      have hw : IntKind.i64.wrap ((j : Int) + 1) = (j : Int) + 1 := IntWalk.i64_in _ (by omega)
      obtain ⟨zb, hzb⟩ : ∃ z, z = decide (t.cl = -1) := ⟨_, rfl⟩
      obtain ⟨z1, hz1⟩ : ∃ z : Int, z = (if t.cl = -1 then 0 else t.cl) := ⟨_, rfl⟩
      obtain ⟨z2, hz2⟩ : ∃ z, z = thE t := ⟨_, rfl⟩
      rw [← hzb] at c0
      rw [← hz1] at c1
      rw [← hz2] at c2 c3
      have HZb := hid hzb
      obtain ⟨m, hm⟩ : ∃ m, m = t.vs.length := ⟨_, rfl⟩
      rw [← hm] at c5 hvl
      have HMm := hid hm
      obtain ⟨W3, hW3⟩ : ∃ W3, W3 = wr.alloc (.cells #[.bool zb, .int .i64 z1, .int .i64 z2.k, .string z2.s, .slice ta tn tc, .slice va m vc] 85) := ⟨_, rfl⟩
      have HB3 : Hid (Below w.heap.size w W3) := by rw [hW3]; exact HB.out.alloc HB.out.size _
      have HBx : Hid (BX W3 wr.heap.size #[.bool zb, .int .i64 z1, .int .i64 z2.k, .string z2.s, .slice ta tn tc, .slice va m vc] 85) := by rw [hW3]; exact BX.new wr _ _
      have HB4 : Hid (Below wr.heap.size wr W3) := by rw [hW3]; exact (Below.refl _ _).alloc (Nat.le_refl _) _
      clear hk hv htv hcv hzb hz1 hz2 hm
      go_wp2_with fail
      rw [← hW3]
      clear hW3 c0 c1 c2 c3 c4 c5
      obtain ⟨bx, hbx⟩ : ∃ b, b = wr.heap.size := ⟨_, rfl⟩
      rw [← hbx] at HBx ⊢
      have HBe := hid hbx
      clear hbx
      obtain ⟨wo, rfl⟩ : ∃ wo, wo = wr := ⟨_, rfl⟩
      go_loopw [50] (fun i wi => ∃ k : Nat, k ≤ m ∧ i = .int .i64 (k : Int) ∧ Hid (Below W3.heap.size W3 wi)) (fun i _ => m - (intOf i).toNat)
      case atStart => exact ⟨0, by omega, rfl, Below.refl _ _⟩
      case round =>
        obtain ⟨k, hkm, rfl, HI⟩ := hrel
        have HBi := hid (belows HB3.out HI.out HB3.out.size)
        have HBr := hid (belows HB4.out HI.out HB4.out.size)
        have b1 := HBx.out.below HI.out
        have f0 := b1.cell 0
        have f5 := b1.cell 5
        simp at f0 f5
        have hbl := b1.sz
        by_cases hlt2 : k < m
        · obtain ⟨u, hu⟩ : ∃ u, t.vs[k]? = some u := ⟨t.vs[k]'(by have := HMm.out; omega), List.getElem?_eq_getElem (by have := HMm.out; omega)⟩
          obtain ⟨gv, cap, hgv, -, hgo, hcl⟩ := own_cell HCv.out (by have := HMm.out; omega)
          obtain ⟨rfl, -, rfl⟩ := Value.slice.inj hgv
          obtain ⟨v0, v1⟩ := vL_at hu
          have d0 := hcl _ _ v0
          have d1 := hcl _ _ v1
          have hgl := Kit.own_lt HCv.out gv hgo
          have HD := hid (fun X (b : Below wo.heap.size wo X) => And.intro ((b.cell (p := ⟨gv, k * 2, none⟩) hgl).trans d0) ((b.cell (p := ⟨gv, k * 2 + 1, none⟩) hgl).trans d1))
          have i3 : (k : Int) < (m : Int) := by omega
          have hth := thing_nth HK.out
          have HG := hid (fun X (b : Below w.heap.size w X) => Get_any (HP.out X b) HOk.out ((j : Int) + 1) (k : Int) (by omega))
          by_cases hc : t.cl = -1
          · have hzt : zb = true := by rw [HZb.out]; simpa using hc
            subst hzt
            obtain ⟨x, hx⟩ := Hp.ok_one HOk.out (List.mem_of_getElem? HK.out) hc
            have HLd := hid (fun X (b : Below w.heap.size w X) => Load_any (HP.out X b) HOk.out ((j : Int) + 1) (k : Int) (by omega))
            rw [(Hp.el_ok (v := u) hth hc hx hu).1] at HLd
            rw [(Hp.fd_ref (i := (k : Int)) (v := u) (fun t' ht' => by rw [hth] at ht'; rw [← Option.some.inj ht']; exact hc)).1] at HG
            rw [← HHb.out] at HG HLd
            unfold vA Hp.V0 at HG
            unfold vA at HLd
            dsimp only at HG HLd
            clear hth hc hx hu v0 v1 hcl hgo hgv d0 d1 HP HR
            go_wp2_with fail
            refine (HG.out _ HBi.out).mono ?_
            rintro e w4 ⟨rfl, hb4⟩
            have b4 := b1.below hb4
            have f0 := b4.cell 0
            simp at f0
            have hz4 := hb4.size
            have HB5 := hid (belows HBi.out hb4 HBi.out.size)
            have HB6 := hid (belows HBr.out hb4 HBr.out.size)
            have HX4 := hid hb4
            have hs4 := b4.sz
            clear hb4
            go_wp2_with fail
            refine (HLd.out _ (HB5.out.alloc HB5.out.size _)).mono ?_
            rintro e w5 ⟨rfl, hb5⟩
            have b5 := (b4.below ((Below.refl _ w4).alloc (Nat.le_refl _) (.cells #[.int .i64 0, .int .i64 0] 35))).below hb5
            have f5 := b5.cell 5
            have y5 := (BX.new w4 #[.int .i64 0, .int .i64 0] 35).below hb5
            have g0 := y5.cell 0
            have g1 := y5.cell 1
            have k0 := y5.frozen 0
            have k1 := y5.frozen 1
            simp at f5 g0 g1
            have HB7 := hid (belows HB6.out (((Below.refl _ w4).alloc (Nat.le_refl _) (.cells #[.int .i64 0, .int .i64 0] 35)).trans (hb5.mono (by simp))) HB6.out.size)
            have HB8 := hid (belows (belows HB5.out ((Below.refl _ w4).alloc (Nat.le_refl _) (.cells #[.int .i64 0, .int .i64 0] 35)) HB5.out.size) hb5 (by have := HB5.out.size; simp; omega))
            obtain ⟨w7, hw7⟩ : ∃ w7, w7 = (w5.setCell ⟨w4.heap.size, 0, none⟩ (.int .i64 u.k)).setCell ⟨w4.heap.size, 1, none⟩ (.int .i64 u.n) := ⟨_, rfl⟩
            have y7 : BX w7 w4.heap.size #[.int .i64 u.k, .int .i64 u.n] 35 := by rw [hw7]; exact (y5.set 0 _).set 1 _
            have BW : Below w.heap.size w w7 := by rw [hw7]; exact (HB8.out.setCell (p := ⟨w4.heap.size, 0, none⟩) HB5.out.size _).setCell (p := ⟨w4.heap.size, 1, none⟩) HB5.out.size _
            have BO : Below wo.heap.size wo w7 := by rw [hw7]; exact (HB7.out.setCell (p := ⟨w4.heap.size, 0, none⟩) HB6.out.size _).setCell (p := ⟨w4.heap.size, 1, none⟩) HB6.out.size _
            have c5 : Below w4.heap.size w4 w7 := by rw [hw7]; exact ((((Below.refl _ w4).alloc (Nat.le_refl _) _).trans (hb5.mono (by simp))).setCell (p := ⟨w4.heap.size, 0, none⟩) (Nat.le_refl _) _).setCell (p := ⟨w4.heap.size, 1, none⟩) (Nat.le_refl _) _
            obtain ⟨d0, d1⟩ := HD.out w7 BO
            have b7 := b4.below c5
            have f5 := b7.cell 5
            have g0 := y7.cell 0
            have g1 := y7.cell 1
            simp at f5 g0 g1
            have HF := hid (belows (belows HI.out HX4.out HI.out.size) c5 (by have := HI.out.size; have := HX4.out.size; omega))
            clear hb5 b5 y5 y7 b7 b4 b1 HB7 HB8 HD
            go_wp2_with fail
            rw [← hw7]
            clear hw7
            go_quiet (fail)
            go_wp2
            go_roundw
            case rel => exact ⟨k + 1, by omega, by go_num, belows_drewN HF.out _⟩
            case measure => simp [intOf]; omega
          · have hzt : zb = false := by rw [HZb.out]; simpa using hc
            subst hzt
            obtain ⟨x, hx⟩ := obj_type HOk.out (List.mem_of_getElem? HK.out) hc (List.getElem?_eq_some_iff.1 hu).1
            rw [(Hp.fd_ok (v := u) hth hc hx hu).1] at HG
            rw [← HHb.out] at HG
            unfold vA at HG
            dsimp only at HG
            clear hth hc hx hu v0 v1 hcl hgo hgv d0 d1 HP HR
            go_wp2_with fail
            refine (HG.out _ HBi.out).mono ?_
            rintro e w4 ⟨rfl, hb4⟩
            have c4 := hb4.trans ((Below.refl _ w4).alloc (Nat.le_trans hb4.size (Nat.le_refl _)) (.cells #[.int .i64 u.k, .int .i64 u.n] 35))
            obtain ⟨W5, hW5⟩ : ∃ W5, W5 = w4.alloc (.cells #[.int .i64 u.k, .int .i64 u.n] 35) := ⟨_, rfl⟩
            rw [← hW5] at c4
            have b5 := b1.below c4
            have b4 := b1.below hb4
            have f0 := b4.cell 0
            have hs4 := b4.sz
            have f5 := b5.cell 5
            have y5 : BX W5 w4.heap.size #[.int .i64 u.k, .int .i64 u.n] 35 := by rw [hW5]; exact BX.new w4 _ _
            have g0 := y5.cell 0
            have g1 := y5.cell 1
            simp at f0 f5 g0 g1
            obtain ⟨d0, d1⟩ := HD.out W5 (belows HBr.out c4 HBr.out.size)
            have HF := hid (belows HI.out c4 HI.out.size)
            clear hb4 c4 b5 b4 y5 b1 HD
            go_wp2_with fail
            rw [← hW5]
            clear hW5
            go_quiet (fail)
            go_wp2
            go_roundw
            case rel => exact ⟨k + 1, by omega, by go_num, belows_drewN HF.out _⟩
            case measure => simp [intOf]; omega
        · obtain rfl : k = m := by omega
          have i3 : ¬ ((k : Int) < (k : Int)) := by omega
          go_wp2
          go_roundw
          case rel => exact ⟨j + 1, by omega, by go_num, HBi⟩
          case measure => simp [intOf]; omega
    · obtain rfl : j = n := by omega
      have i1 : ¬ ((j : Int) < (j : Int)) := by omega
      go_wp2
      go_ret
      exact ⟨rfl, HB.out⟩
end Go.Proofs.Ythembnakeikmeaa
namespace Go.Proofs.Ythembnakeikmeaa
open Go Go.RowKit

theorem ops_row {w W : World} {v : Value} {l : List Hp.Op} (h : OpsR w v l) (hb : Below w.heap.size w W) {k : Nat} {x : Hp.Op} (hk : l[k]? = some x) :
    ∃ b o cap ka kc, v = .slice (some ⟨b, o, none⟩) l.length cap ∧ b < w.heap.size ∧ Kit.IsS 2 w (.slice ka x.ts.length kc) x.ts.length (x.ts.flatMap tL) ∧ ∀ j u, [Value.int .i64 x.f, .int .i64 x.c, .slice ka x.ts.length kc, .int .i64 x.el.k, .string x.el.s, .int .i64 x.ref, .int .i64 x.i, .int .i64 x.v.k, .int .i64 x.v.n][j]? = some u → W.cell? ⟨b, o + k * 9 + j, none⟩ = some u := by
  obtain ⟨rs, h1, h2, h3⟩ := h
  have hkl := (List.getElem?_eq_some_iff.1 hk).1
  obtain ⟨b, o, cap, rfl, hc, hlt, hx⟩ := h3.some (by omega)
  have hrk : rs[k]? = some (rs[k]'(by omega)) := List.getElem?_eq_getElem _
  obtain ⟨kv, hr, hks⟩ := h2 k _ x hrk hk
  obtain ⟨ka, kc, rfl⟩ := hks.len
  refine ⟨b, o, cap, ka, kc, rfl, hlt, hks, fun j u hj => ?_⟩
  have hlen : ∀ r ∈ rs, r.length = 9 := fun r hr => by
    obtain ⟨i, hi⟩ := List.mem_iff_getElem?.1 hr
    have hil := (List.getElem?_eq_some_iff.1 hi).1
    obtain ⟨kv', e, -⟩ := h2 i r _ hi (List.getElem?_eq_getElem (by omega))
    rw [e]; rfl
  have hfl : ∀ (rs : List (List Value)), (∀ r ∈ rs, r.length = 9) → ∀ (k : Nat) (r : List Value), rs[k]? = some r → ∀ j u, r[j]? = some u → rs.flatten[k * 9 + j]? = some u := by
    intro rs
    induction rs with
    | nil => intro _ k r hr; simp at hr
    | cons r0 rs ih =>
      intro hl k r hr j u hu
      have h0 := hl r0 (by simp)
      match k, hr with
      | 0, hr =>
        simp at hr
        subst hr
        rw [List.flatten_cons, List.getElem?_append_left (by have := (List.getElem?_eq_some_iff.1 hu).1; omega)]
        simpa using hu
      | k + 1, hr =>
        rw [List.flatten_cons, List.getElem?_append_right (by omega), h0, show (k + 1) * 9 + j - 9 = k * 9 + j by omega]
        exact ih (fun r h => hl r (by simp [h])) k r (by simpa using hr) j u hu
  have h5 := hfl rs hlen k _ hrk j u (by rw [hr]; exact hj)
  have h6 := hx _ _ h5
  rw [← Nat.add_assoc] at h6
  exact (hb.cell (p := ⟨b, o + k * 9 + j, none⟩) hlt).trans h6
set_option maxRecDepth 100000 in
set_option maxHeartbeats 4000000 in
theorem does_law (lim : Int) (l : List Hp.Op) (v : Value) (w : World) (hli : -9223372036854775808 ≤ lim ∧ lim ≤ 9223372036854775807) (hv : OpsR w v l) (hg : ∀ x ∈ l, GoodO x) :
    Calls Try.prog 3 #[.int .i64 lim, v] w fun e w' => e = .returned (.bool true) ∧ Below w.heap.size w w' := by
  have HVl := hid hv
  have HG := hid hg
  have HBg := hid begun_any
  obtain ⟨va, vcap, rfl⟩ : ∃ a c, v = .slice a l.length c := by
    obtain ⟨rs, -, -, h⟩ := hv
    exact h.len
  have hvl : l.length ≤ 140737488355328 := by
    obtain ⟨rs, -, -, h⟩ := hv
    exact h.2.1
  clear hv hg
  by_cases hlm : lim < 0 ∨ 1048576 < lim
  · have HN := hid (fun X => New_no lim X hlm)
    have HM := hid (fun X => rnew_no lim X hlm)
    clear hlm
    go_enter Try.func3, Try.ntmps3
    go_wp2_with fail
    refine (HN.out _).mono ?_
    rintro e w1 ⟨rfl, rfl⟩
    go_wp2_with fail
    refine (HM.out _).mono ?_
    rintro e w1 ⟨rfl, rfl⟩
    go_wp2_with fail
    refine (HBg.out _).mono ?_
    rintro e w2 ⟨rfl, hb2⟩
    go_wp2
    go_ret
    exact ⟨rfl, hb2⟩
  · obtain ⟨lm, rfl⟩ : ∃ m : Nat, lim = m := ⟨lim.toNat, by omega⟩
    have hl2 : lm ≤ 1048576 := by omega
    have HN := hid (fun X => New_any X.heap.size lm X (Nat.le_refl _) hl2)
    have HM := hid (fun X => rnew_ok lm X hl2)
    have HOk0 := hid (Hp.new_ok hl2)
    clear hlm hl2 hli
    go_enter Try.func3, Try.ntmps3
    go_wp2_with fail
    refine (HN.out _).mono ?_
    rintro e w1 ⟨H, rfl, hR, hb1, -⟩
    rw [← flat_new] at hR
    go_wp2_with fail
    refine (HM.out _).mono ?_
    rintro e w2 ⟨rfl, hb2, hx2⟩
    have hT2 : Two w w2 H w1.heap.size (.slice none 0 0) ⟨lm, []⟩ ⟨lm, []⟩ := ⟨belows hb1 hb2 hb1.size, hR.below hb2, [], refR_new hx2 hb1.size (fun e => by have := (hR.low _ e).2; omega)⟩
    go_wp2_with fail
    refine (HBg.out _).mono ?_
    rintro e w3 ⟨rfl, hb3⟩
    have HT3 := hid (hT2.next hb3)
    obtain ⟨rb, hrb⟩ : ∃ rb, rb = w1.heap.size := ⟨_, rfl⟩
    rw [← hrb] at HT3 ⊢
    clear hR hb1 hb2 hx2 hT2 hb3 hrb HN HM HBg
    go_wp2_with fail
    go_loopw [5, 40] (fun hp i wr => ∃ (k : Nat) (H : HV) (rv : Value) (s : Hp.Hs), k ≤ l.length ∧ hp = .pointer (some ⟨H.hb, 0, none⟩) ∧ i = .int .i64 (k : Int) ∧ Hid (Two w wr H rb rv s s) ∧ Hid s.Ok) (fun _ i _ => l.length - (intOf i).toNat)
    case atStart => exact ⟨0, H, _, _, by omega, rfl, rfl, HT3, HOk0⟩
    case round =>
      obtain ⟨k, H, rv, s, hk, rfl, rfl, HT, HOk⟩ := hrel
      clear HT3
      by_cases hlt : k < l.length
      · obtain ⟨x, hx⟩ : ∃ x, l[k]? = some x := ⟨_, List.getElem?_eq_getElem hlt⟩
        have hgx := HG.out x (List.mem_of_getElem? hx)
        obtain ⟨b, o, cap, ka, kc, hsl, hbl2, hts, hxx⟩ := ops_row HVl.out HT.out.below hx
        obtain ⟨rfl, -, rfl⟩ := Value.slice.inj hsl
        have y0 := hxx 0 _ rfl
        have y1 := hxx 1 _ rfl
        have y2 := hxx 2 _ rfl
        have y3 := hxx 3 _ rfl
        have y4 := hxx 4 _ rfl
        have y5 := hxx 5 _ rfl
        have y6 := hxx 6 _ rfl
        have y7 := hxx 7 _ rfl
        have y8 := hxx 8 _ rfl
        rw [Nat.add_zero] at y0
        have HSt := hid (fun (X : World) (b : Below wr.heap.size wr X) => step_any (HT.out.next b) HOk.out (⟨hgx, hts⟩ : ArgO w x (.slice ka x.ts.length kc)))
        unfold opA at HSt
        obtain ⟨tl, htl⟩ : ∃ n, n = x.ts.length := ⟨_, rfl⟩
        rw [← htl] at y2 HSt
        obtain ⟨hbH, hhb⟩ : ∃ b, b = H.hb := ⟨_, rfl⟩
        rw [← hhb] at HSt ⊢
        have i1 : (k : Int) < (l.length : Int) := by omega
        clear hsl hxx hx hgx hts htl hhb
        go_wp2_with fail
        refine (HSt.out _ ((Below.refl _ _).alloc (Nat.le_refl _) _)).mono ?_
        rintro e w4 ⟨H4, rv4, s4, rfl, hT4, hok4⟩
        have HT4 := hid hT4
        have HU := hid (fun X (b : Below w4.heap.size w4 X) => used_b (hT4.rep.below b) hok4)
        have HW := hid (fun X (b : Below w4.heap.size w4 X) => (rused_any ((Classical.choose_spec hT4.ref).below b) hok4))
        have HOk4 := hid hok4
        obtain ⟨hb4, hh4⟩ : ∃ b, b = H4.hb := ⟨_, rfl⟩
        rw [← hh4] at HU ⊢
        have HH4 := hid hh4
        clear hT4 hok4 hh4 HSt y0 y1 y2 y3 y4 y5 y6 y7 y8
        go_wp2_with fail
        refine (HU.out _ (by repeat' first | with_reducible exact Below.refl _ _ | with_reducible assumption | with_reducible refine belows_drewN ?_ _ | with_reducible refine Below.drew ?_ | with_reducible refine Below.setCell ?_ ?_ _ | with_reducible refine Below.alloc ?_ ?_ _ | omega | (simp; done) | (simp; omega))).mono ?_
        rintro e w5 ⟨rfl, hb5⟩
        go_wp2_with fail
        refine (HW.out _ (by repeat' first | with_reducible exact Below.refl _ _ | with_reducible assumption | with_reducible refine belows_drewN ?_ _ | with_reducible refine Below.drew ?_ | with_reducible refine Below.setCell ?_ ?_ _ | with_reducible refine Below.alloc ?_ ?_ _ | omega | (simp; done) | (simp; omega))).mono ?_
        rintro e w6 ⟨rfl, hb6⟩
        have HT6 := hid ((HT4.out.next hb5).next hb6)
        clear hb5 hb6 HU HW HT4
        go_wp2
        go_roundw
        case rel => exact ⟨k + 1, H4, rv4, s4, by omega, by rw [HH4.out], by go_num, HT6, HOk4⟩
        case measure => simp [intOf]; omega
      · obtain rfl : k = l.length := by omega
        have i1 : ¬ ((l.length : Int) < (l.length : Int)) := by omega
        have HE := hid (equal_any HT.out HOk.out)
        go_wp2_with fail
        refine HE.out.mono ?_
        rintro e w7 ⟨rfl, hb7⟩
        have HB := hid (belows HT.out.below hb7 HT.out.below.size)
        clear hb7
        go_wp2
        go_ret
        exact ⟨rfl, HB.out⟩
end Go.Proofs.Ythembnakeikmeaa
namespace Go.Proofs.Ythembnakeikmeaa.Kit
open Go Go.RowKit Go.ChangeShapes Go.WideShapes Go.ChangeAt

section
variable {H : Type} {enc : TypeId × Value → H} {P : Program}
/-- Arguments read in a later world as they did. -/
theorem trodAll_later (hl : laidOutB P = true) {W W' : World} (hb : Below W.heap.size W W') (sp : Nat → Bool) :
    ∀ {ts : List TypeId} {vs : List Value} {ds : List (DataW H)} {ps : List MemPlace}, (∀ t ∈ ts, P.readableRec t = true ∧ t < P.types.size) → DataW.TrodAll enc P W 0 (fun _ => true) true ts vs ds ps →
      (∀ x ∈ ps, x.block < W.heap.size) → (∀ x ∈ ps, sp x.block = true) → DataW.TrodAll enc P W' 0 sp true ts vs ds ps
  | [], vs, ds, ps, _, h, _, _ => by
    obtain ⟨rfl, rfl, rfl⟩ := trodAll_nil h
    exact trodAll_mk0
  | t :: ts, vs, ds, ps, hr, h, hlt, hsp => by
    obtain ⟨v, vs', d, ds', p, q, rfl, rfl, rfl, h0, h1⟩ := trodAll_cons h
    exact trodAll_cons_mk (WideElems.Trod_stays hl (hr t (by simp)).1 (hr t (by simp)).2 h0 (fun x hx => hb.same (hlt x (by simp [hx]))) (fun x hx => hsp x (by simp [hx])))
      (trodAll_later hl hb sp (fun t ht => hr t (by simp [ht])) h1 (fun x hx => hlt x (by simp [hx])) (fun x hx => hsp x (by simp [hx])))
/-- A law's answer: true; all that it was handed reads as it did. -/
theorem law_post {f : Func} {s : ChangeSpec} {apart fresh handsOn again : Bool} {W W' : World} {args : Array Value} {ds gs : List (DataW H)} {before : List MemPlace} {tb : TypeId}
    (hv : s.vars = []) (hr : f.resultTypes = #[tb]) (htb : P.underlying tb = some .bool) (hl : laidOutB P = true) (hrd : ∀ t ∈ f.params.toList, P.readableRec t = true ∧ t < P.types.size)
    (hW : DataW.Whole enc P f.params.toList s.vars apart W args.toList ds gs before)
    (hfn : s.fn H (ds ++ gs) = { results := [.lit (.bool true)], args := ds }) (hb : Below W.heap.size W W') :
    s.post enc P f apart fresh handsOn again W args (.bool true) W' := by
  have hlt : ∀ p ∈ before, p.block < W.heap.size := fun p hp => hW.lt p hp
  have hW' := hW
  obtain ⟨p, q, hA, hV, rfl, hfz, hnd⟩ := hW
  rw [hv] at hV
  obtain ⟨rfl, rfl⟩ := trodVars_none hV
  simp only [List.append_nil] at hlt hfz hnd hW' hfn ⊢
  have hres : ∀ (b : Nat) (sp : Nat → Bool) (hd : Bool), DataW.TrodAll enc P W' b sp hd f.resultTypes.toList ((Value.bool true).resultList f.resultTypes.size) (s.fn H ds).results [] := by
    intro b sp hd
    rw [hr, hfn]
    exact trodAll_cons_mk (shut_bool htb _) trodAll_mk0
  have hargs : ∀ sp : Nat → Bool, (∀ x ∈ p, sp x.block = true) → DataW.TrodAll enc P W' 0 sp true f.params.toList args.toList (s.fn H ds).args p := by
    intro sp hsp
    rw [hfn]
    exact trodAll_later hl hb sp hrd hA hlt hsp
  have hvs : ∀ sp : Nat → Bool, DataW.TrodVars enc P W' sp s.vars (s.fn H ds).vars [] := by
    intro sp
    rw [hv, hfn]
    rfl
  have hold : ∀ x ∈ p, (fun b => decide (b < W.heap.size)) x.block = true := fun x hx => by simpa using hlt x hx
  refine ⟨ds, [], p, [], p, [], hW', ?_, ?_, ?_, World.keptBut_mono (fun x hx => ⟨hx, .inr (.inl hx)⟩) (hb.frame (· ∈ p)), fun _ => ?_⟩
  · rw [List.append_nil]; exact hres _ _ _
  · rw [List.append_nil]; exact hargs _ hold
  · rw [List.append_nil]; exact hvs _
  · refine ⟨ok_one hr rfl (okWide_bool_mk htb _), _, _, ([] ++ p) ++ [], ⟨[] ++ p, [], trodAll_append (hargs _ (fun _ _ => rfl)) (hres _ _ _), hvs _, rfl, ?_, ?_⟩, ?_⟩
    · intro b off hp
      have hin : MemPlace.cell b off ∈ p := by simpa using hp
      have := hb.frozen (p := ⟨b, off, none⟩) (hlt _ hin)
      rw [this]
      exact hfz b off hin
    · intro ha
      simpa using hnd ha
    · intro x hx _
      simpa using hx
end
end Go.Proofs.Ythembnakeikmeaa.Kit
namespace Go.Proofs.Ythembnakeikmeaa.heapDoesCard
open Go.ChangeShapes Go.WideShapes Go.ChangeAt Go.RowKit
theorem own : ownKnob Try.prog.godebug = none := by kernel_rfl
set_option maxRecDepth 100000 in
theorem contract (H : Type) (enc : TypeId × Value → H) (W : World) (base : Nat) (args : Array Value) (ds gs : List (DataW H)) (before : List MemPlace)
    (hval : ∀ (j : Nat) t v, Try.f3.params[j]? = some t → args[j]? = some v → Value.okWide Try.prog W .any base t v)
    (hW : DataW.Whole enc Try.prog Try.f3.params.toList Rows.heapDoesSpec.vars false W args.toList ds gs before)
    (hsz : (DataW.weightsEach Try.prog (Try.f3.params.toList ++ (OpenSpec.ofChange Rows.heapDoesSpec).bare.plain.varTypes Try.prog) (ds ++ gs)).all (· ≤ reachBytes) = true) :
    Calls Try.prog 3 args W fun e W' => ∃ v, e = .returned v ∧ Rows.heapDoesSpec.post enc Try.prog Try.f3 false true false false W args v W' := by
  have hW' := hW
  obtain ⟨p, q, hA0, hV, rfl, hfz, hnd⟩ := hW
  have hA : DataW.TrodAll enc Try.prog W 0 (fun _ => true) true Try.f3.params.toList args.toList ds p := hA0
  rw [Try.params3] at hA hval hsz
  obtain ⟨v0, vs0, d0, ds0, p0, q0, hargs, rfl, rfl, h0, r0⟩ := trodAll_cons hA
  obtain ⟨v1, vs1, d1, ds1, p1, q1, rfl, rfl, rfl, h1, r1⟩ := trodAll_cons r0
  obtain ⟨rfl, rfl, rfl⟩ := trodAll_nil r1
  obtain rfl : args = #[v0, v1] := by cases args; simp_all
  obtain ⟨rfl, rfl⟩ := trodVars_none hV
  obtain ⟨x0, rfl, rfl, rfl, wx0⟩ := open_int Try.underlying3 (hval 0 3 v0 rfl rfl) h0
  obtain ⟨x1, wx1, wg1⟩ := open_ops (hval 1 22 v1 rfl rfl) h1 (weights_eachT (j := 1) (t := 22) (d := d1) rfl rfl hsz)
  refine (does_law x0 x1 _ W (i64_of wx0) wx1 wg1).mono fun e W' ⟨he, hb⟩ => ?_
  subst he
  exact ⟨_, rfl, Kit.law_post rfl rfl Try.underlying4 (by kernel_rfl) (by decide +kernel) hW' rfl hb⟩
theorem reads (os : Os) {H : Type} (enc : TypeId × Value → H) : ∃ places, DataW.whole enc Try.prog ((World.holding Try.prog os ⟨#[], #[], []⟩).forCall (fun _ _ => 0) ⟨#[], #[.int .i64 0, .slice none 0 0], []⟩).memory Try.f3.params.toList Rows.heapDoesSpec.vars false (#[.int .i64 0, .slice none 0 0] : Array Value).toList 8 = some ([.lit (.int .i64 0), .nil], [], places) :=
  ⟨[], by kernel_rfl⟩
theorem laid_met (os : Os) : laidMet Try.prog Rows.heapDoesRow.laid ((World.holding Try.prog os ⟨#[], #[], []⟩).forCall (fun _ _ => 0) ⟨#[], #[.int .i64 0, .slice none 0 0], []⟩).memory :=
  laidMet_of_run' 8 (by kernel_rfl) (by kernel_rfl)
set_option maxRecDepth 100000 in
theorem lifted (os : Os) (started : os.Started) (H : Type) (enc : TypeId × Value → H) (F : Stop.Interp) :
    ReturnsInHanded {} Try.checked os 3 .any ((OpenSpec.ofChange Rows.heapDoesSpec).preRow enc Try.prog Try.f3 Rows.heapDoesRow.domain false Rows.heapDoesRow.laid) (((OpenSpec.ofChange Rows.heapDoesSpec).at F).post enc Try.prog Try.f3 false true false false) := by
  obtain ⟨places, hx⟩ := reads os enc
  refine returnsInHanded_of_row (C := Try.checked) (s := (OpenSpec.ofChange Rows.heapDoesSpec)) own started (by kernel_rfl) Try.func3
    (witness_row_at (enc := enc) (C := Try.checked) false (World.holding Try.prog os ⟨#[], #[], []⟩) #[.int .i64 0, .slice none 0 0] rfl (by kernel_rfl) (by kernel_rfl) (by kernel_rfl)
      (OpenSpec.preRow_of_cond 8 hx (by kernel_rfl) (fun k hk => by cases hk) (by kernel_rfl) (laid_met os))) ?_
  intro W base args ds gs before hval hW _ _ hsz _ _ _
  exact contract H enc W base args ds gs before hval hW hsz
theorem proved : Rows.HeapDoesSaid :=
  OpenClaim.holds_of_cond 3 Try.f3 rfl rfl rfl rfl rfl rfl rfl ⟨rfl, rfl, rfl, rfl, rfl⟩ rfl rfl rfl rfl rfl (by kernel_rfl) Try.func3 (by kernel_rfl)
    (of_decide_eq_true (by kernel_rfl)) (by unfold Func.isWrapper; first | (rw [if_pos (by decide +kernel)]; kernel_rfl) | (rw [if_neg (by decide +kernel)]; exact ⟨rfl, rfl⟩))
    (fun os started H enc _ F => by rw [OpenClaim.pre_eq_preRow]; exact lifted os started H enc F)
end Go.Proofs.Ythembnakeikmeaa.heapDoesCard
