/- ClassfileGrows is true for every name, all lists of fields and methods and every member, as long as the listed tables of packages opcode and cpool hold what the text of the program lays there (the card ties it). -/
import Derived.Test.YtjnjnfhboafcgaaGreatDoorZG17
import Derived.Test.YtjnjnfhboafcgaaGreatDoorRows
import Derived.ChangeSlices
namespace Go.Proofs.YtjnjnfhboafcgaaGreatDoor
open Go Go.RowKit

theorem ClR.two {w : World} {a0 a1 pv a3 a4 a5 fv mv : Value} {c : Cf.Cl} (h : ClR w #[a0, a1, pv, a3, a4, a5, fv, mv] c) : MsR w fv c.fs ∧ MsR w mv c.ms := by
  obtain ⟨pv', fv', mv', h, -, h1, h2⟩ := h
  have e1 : fv = fv' := by have := congrArg (fun v : Array Value => v.getD 6 (.bool false)) h; simpa using this
  have e2 : mv = mv' := by have := congrArg (fun v : Array Value => v.getD 7 (.bool false)) h; simpa using this
  subst e1 e2
  exact ⟨h1, h2⟩
set_option maxRecDepth 100000 in
set_option maxHeartbeats 4000000 in
theorem grows_law (na : ByteArray) (fv mv : Value) (fl ml : List Nm3) (m : Cf.Mb) (cv hv : Value) (w : World) (t1 : L1.Tabs w) (t3 : L3.Tabs w)
    (hF : Kit.IsS 3 w fv fl.length (fl.flatMap nmL)) (hFg : ∀ x ∈ fl, x.2.1.size ≤ 140737488355328 ∧ x.2.2.size ≤ 140737488355328) (hM : Kit.IsS 3 w mv ml.length (ml.flatMap nmL)) (hMg : ∀ x ∈ ml, x.2.1.size ≤ 140737488355328 ∧ x.2.2.size ≤ 140737488355328)
    (hB : L3.Bs w.heap.size w cv m.code) (hH : Kit.IsS 4 w hv m.hs.length (m.hs.flatMap hL)) (hmc : m.code.length ≤ 140737488355328) (hmh : m.hs.length * 32 ≤ 140737488355328) :
    Calls Tryz.prog 9 #[.string na, fv, mv, mbV m cv hv] w fun e w' => e = .returned (.bool true) ∧ Below w.heap.size w w' := by
  obtain ⟨i0, hi, hz0, hz1, hz2⟩ := info_parts infoN
  have HT := hid (And.intro t1 t3)
  have HF := hid (And.intro hF hFg)
  have HM := hid (And.intro hM hMg)
  have HBH := hid (And.intro hB (And.intro hH (And.intro hmc hmh)))
  have HN := hid (fun W (k : Below w.heap.size w W) => (show Calls Tryz.prog 30 #[.string na, .string ⟨#[106, 97, 118, 97, 47, 108, 97, 110, 103, 47, 79, 98, 106, 101, 99, 116]⟩] W (NwPost na Cf.oS W) from new_any na Cf.oS W (t3.below k t3.size)))
  obtain ⟨fa, fc, rfl⟩ := hF.len
  obtain ⟨ma, mc, rfl⟩ := hM.len
  obtain ⟨xa, xc, rfl⟩ := hB.len
  obtain ⟨ya, yc, rfl⟩ := hH.len
  obtain ⟨nf, hnf⟩ : ∃ n, n = fl.length := ⟨_, rfl⟩
  obtain ⟨nm, hnm⟩ : ∃ n, n = ml.length := ⟨_, rfl⟩
  rw [← hnf] at HF ⊢
  rw [← hnm] at HM ⊢
  have HNF := hid hnf
  have HNM := hid hnm
  unfold mbV
  clear t1 t3 hF hFg hM hMg hB hH hmc hmh hnf hnm
  go_enter Tryz.func9, Tryz.ntmps9
  go_wp2_with (first | (go_at_call 30; refine (HN.out _ (by repeat' first | with_reducible exact Below.refl _ _ | with_reducible assumption | with_reducible refine belows_drewN ?_ _ | with_reducible refine Below.drew ?_ | with_reducible refine Below.setCell ?_ ?_ _ | with_reducible refine Below.alloc ?_ ?_ _ | omega | (simp; done) | (simp; omega))).mono ?_; rintro e w1 ⟨c, er, vs, hN, rfl, hR, hPz, hb1⟩; obtain ⟨bM, hz1M, B1⟩ := belows1 hb1; have HB1 := hid B1; have BM1 := hid bM; have HR := hid hR; obtain ⟨pv, fv1, mv1, rfl, hp, hf, hm⟩ := hR; obtain ⟨pa, pc, rfl⟩ := hp.len; obtain ⟨fa1, fc1, rfl⟩ := hf.len; obtain ⟨ma1, mc1, rfl⟩ := hm.len; clear hp hf hm hb1 bM B1; by_cases her : er = 0; all_goals (first | (subst her; have HG := hid (grw_new hN hPz 140737488355328); clear hN hPz) | (have hd : (er != 0) = true := (by simpa using her); have HZ := hid her; clear hN hPz her))) | (go_at_call 13; (fail_if_success (have _g := HB2)); have hB1 := HB1.out; refine (begun_any _ (HT.out.1.below (by repeat' first | with_reducible exact Below.refl _ _ | with_reducible assumption | with_reducible refine belows_drewN ?_ _ | with_reducible refine Below.drew ?_ | with_reducible refine Below.setCell ?_ ?_ _ | with_reducible refine Below.alloc ?_ ?_ _ | omega | (simp; done) | (simp; omega)) HT.out.1.size) (HT.out.2.below (by repeat' first | with_reducible exact Below.refl _ _ | with_reducible assumption | with_reducible refine belows_drewN ?_ _ | with_reducible refine Below.drew ?_ | with_reducible refine Below.setCell ?_ ?_ _ | with_reducible refine Below.alloc ?_ ?_ _ | omega | (simp; done) | (simp; omega)) HT.out.2.size)).mono ?_; rintro e w2 ⟨rfl, hb2⟩; obtain ⟨bC, hz2C, B2⟩ := belows1 hb2; have HB2 := hid (belows hB1 B2 hB1.size); have BC2 := hid bC; have BM2 := hid (BM1.out.below B2 BM1.out.sz); have HR2 := hid B2; clear hB1 hb2 bC B2) | (go_at_call 13; have _g := HZ; refine (begun_any _ (HT.out.1.below HB2.out HT.out.1.size) (HT.out.2.below HB2.out HT.out.2.size)).mono ?_; rintro e w3 ⟨rfl, hb3⟩; have HB3 := hid (belows HB2.out hb3 HB2.out.size); clear hb3))
  rotate_left 1
  · go_ret
    exact ⟨rfl, HB3.out⟩
  have h0 : Gi w w1.heap.size (w1.heap.size + 1) #[.int .i64 m.ac, .int .i64 m.nm, .int .i64 m.ds, .int .i64 m.st, .int .i64 m.lc, .slice xa m.code.length xc, .slice ya m.hs.length yc] c _ [] [] (.slice none 0 0) [] (.slice none 0 0) [] w2 :=
    ⟨HB2.out, BM2.out, BC2.out, ⟨by omega, Nat.lt_succ_self _, hz2C⟩, ClA.low HR.out HR2.out (fun i hi hb => by
      rcases hb with rfl | hb
      · exact absurd hi (Nat.lt_irrefl _)
      · cases hb), HG.out, ⟨rfl, .inl ⟨rfl, rfl⟩⟩, ⟨rfl, .inl ⟨rfl, rfl⟩⟩, fun k hk => by cases hk⟩
  have H0 := hid h0
  obtain ⟨b9, hb9⟩ : ∃ b9, b9 = w1.heap.size := ⟨_, rfl⟩
  rw [← hb9] at H0 ⊢
  clear h0 HB2 BM2 BC2 HR HR2 HG HB1 BM1 hz1M hz2C hb9
  go_loopw [11, 41] (fun lv i wr => ∃ (k : Nat) (c : Cf.Cl) (vs : Array Value) (hf : List (ByteArray × ByteArray)), k ≤ nf ∧ i = .int .i64 k ∧ Gi w b9 (b9 + 1) #[.int .i64 m.ac, .int .i64 m.nm, .int .i64 m.ds, .int .i64 m.st, .int .i64 m.lc, .slice xa m.code.length xc, .slice ya m.hs.length yc] c vs hf [] lv hf (.slice none 0 0) [] wr) (fun _ i _ => nf - (intOf i).toNat)
  case atStart => exact ⟨0, c, _, [], Nat.zero_le _, rfl, H0.out⟩
  case round =>
    clear H0
    obtain ⟨k, c, vs, hf, hk, rfl, hG⟩ := hrel
    have HG := hid hG
    obtain ⟨pv, fv9, mv9, rfl, hp, hf9, hm9⟩ := hG.cl.here
    obtain ⟨pa2, pc2, rfl⟩ := hp.len
    obtain ⟨fa2, fc2, rfl⟩ := hf9.len
    obtain ⟨ma2, mc2, rfl⟩ := hm9.len
    obtain ⟨la, lcap, rfl⟩ := L3.own_form hG.row
    have bC := hG.bc
    (have q0 := bC.cell 0; have fq0 := bC.frozen 0; have q1 := bC.cell 1; have fq1 := bC.frozen 1; have q2 := bC.cell 2; have fq2 := bC.frozen 2; have q3 := bC.cell 3; have fq3 := bC.frozen 3; have q4 := bC.cell 4; have fq4 := bC.frozen 4; have q5 := bC.cell 5; have fq5 := bC.frozen 5; have q6 := bC.cell 6; have fq6 := bC.frozen 6; have q7 := bC.cell 7; have fq7 := bC.frozen 7; simp at q0 q1 q2 q3 q4 q5 q6 q7)
    have HLN := hid hG.gr.len
    have hl9 := hG.lt
    have hnfb : nf ≤ 140737488355328 := HF.out.1.2.1
    by_cases hlt : k < nf
    · obtain ⟨⟨n0, n1, n2⟩, hx⟩ : ∃ x, fl[k]? = some x := ⟨fl[k]'(by rw [← HNF.out]; exact hlt), List.getElem?_eq_getElem _⟩
      obtain ⟨b, o, cap', hv2, hbb, c0, c1, c2⟩ := nm_at (v := .slice fa nf fc) (hs := fl) (by rw [← HNF.out]; exact HF.out.1.below hG.b (Nat.le_refl _)) hx
      obtain ⟨rfl, -, rfl⟩ := Value.slice.inj hv2
      have hgd := HF.out.2 _ (List.mem_of_getElem? hx)
      dsimp only at c0 c1 c2 hgd
      have HW := hid (fun W (kk : Below wr.heap.size wr W) => grf_any (HT.out.1.below (belows hG.b kk hG.b.size) HT.out.1.size) (HT.out.2.below (belows hG.b kk hG.b.size) HT.out.2.size) hG.gr ((hG.below kk).cl.here) hgd.1 hgd.2)
      have hki : (k : Int) < (nf : Int) := by omega
      have hzr : b9 < wr.heap.size := bC.sz
      clear hx hv2 hgd hp hf9 hm9 bC hG
      go_wp2_with (first | (go_at_call 26; (go_loud (refine (HW.out _ (by repeat' first | with_reducible exact Below.refl _ _ | with_reducible assumption | with_reducible refine belows_drewN ?_ _ | with_reducible refine Below.drew ?_ | with_reducible refine Below.setCell ?_ ?_ _ | with_reducible refine Below.alloc ?_ ?_ _ | omega | (simp; done) | (simp; omega))).mono ?_; rintro e W1 ⟨hr, hb1⟩; have HK1 := hid hb1; obtain ⟨bN, hzN, B1⟩ := belows1 hb1; have s0 := bN.cell 0; have s1 := bN.cell 1; have s2 := bN.cell 2; simp at s0 s1 s2; have bC := HG.out.bc.below B1 HG.out.bc.sz; have hzb : b9 < W1.heap.size := bC.sz; have hnb : ¬ wr.heap.size = b9 := (by have := HG.out.bc.sz; omega); have hnb2 : ¬ b9 = wr.heap.size := (by have := HG.out.bc.sz; omega); have hzN2 : wr.heap.size < W1.heap.size := (by omega); (clear q0 q1 q2 q3 q4 q5 q6 q7 fq0 fq1 fq2 fq3 fq4 fq5 fq6 fq7); (have q0 := bC.cell 0; have fq0 := bC.frozen 0; have q1 := bC.cell 1; have fq1 := bC.frozen 1; have q2 := bC.cell 2; have fq2 := bC.frozen 2; have q3 := bC.cell 3; have fq3 := bC.frozen 3; have q4 := bC.cell 4; have fq4 := bC.frozen 4; have q5 := bC.cell 5; have fq5 := bC.frozen 5; have q6 := bC.cell 6; have fq6 := bC.frozen 6; have q7 := bC.cell 7; have fq7 := bC.frozen 7; simp at q0 q1 q2 q3 q4 q5 q6 q7); have HB1 := hid B1; clear bN B1 bC hb1; rcases hr with ⟨er, hz, rfl⟩ | ⟨c', vs', rfl, hO, hg'⟩; all_goals (first | (have hd : (er == 0) = false := (by simpa using hz); clear hz; unfold K0V) | (have HO := hid hO; have HG2 := hid hg'; obtain ⟨pv', fv', mv', rfl, o1, o2, o3⟩ := hO; obtain ⟨pa', pc', rfl⟩ := L3.own_form o1; obtain ⟨fa', fc', rfl⟩ := OMs.form o2; obtain ⟨ma', mc', rfl⟩ := OMs.form o3; clear o1 o2 o3 hg'))))) | (at_builtin; have _g := HG2; go_loud ((obtain ⟨W2, hW2⟩ : ∃ W, W = ((((((((W1.setCell ⟨b9, 0, none⟩ (.int .i64 c'.mi)).setCell ⟨b9, 1, none⟩ (.int .i64 c'.ma)).setCell ⟨b9, 2, none⟩ (.slice pa' c'.pool.length pc')).setCell ⟨b9, 3, none⟩ (.int .i64 c'.ac)).setCell ⟨b9, 4, none⟩ (.int .i64 c'.th)).setCell ⟨b9, 5, none⟩ (.int .i64 c'.su)).setCell ⟨b9, 6, none⟩ (.slice fa' c'.fs.length fc')).setCell ⟨b9, 7, none⟩ (.slice ma' c'.ms.length mc')) := ⟨_, rfl⟩; rw [← hW2]; have g8 := grown8 W1 b9 (.int .i64 c'.mi) (.int .i64 c'.ma) (.slice pa' c'.pool.length pc') (.int .i64 c'.ac) (.int .i64 c'.th) (.int .i64 c'.su) (.slice fa' c'.fs.length fc') (.slice ma' c'.ms.length mc'); have hbx := put8 (HG.out.bc.below HB1.out HG.out.bc.sz) rfl (.int .i64 c'.mi) (.int .i64 c'.ma) (.slice pa' c'.pool.length pc') (.int .i64 c'.ac) (.int .i64 c'.th) (.int .i64 c'.su) (.slice fa' c'.fs.length fc') (.slice ma' c'.ms.length mc'); have hs2 : W2.heap.size = W1.heap.size := (by rw [hW2]; simp only [World.size_setCell]); rw [← hW2] at g8 hbx; have kk := HK1.out; have hGa := HG.out.below ((Below.refl wr.heap.size wr).alloc (Nat.le_refl _) (.cells #[.string n0, .string n1, .string n2] 44)); have hrow := Kit.owns_grown (hGa.below kk).row g8 (by omega); have hz5 := kk.size; simp only [World.size_alloc] at hz5; have HW2s := hid hs2; clear hW2 hs2; obtain ⟨W3, hW3⟩ : ∃ W, W = W2.alloc (.cells #[.int .i64 c'.mi, .int .i64 c'.ma, .slice pa' c'.pool.length pc', .int .i64 c'.ac, .int .i64 c'.th, .int .i64 c'.su, .slice fa' c'.fs.length fc', .slice ma' c'.ms.length mc'] 26) := ⟨_, rfl⟩; rw [← hW3]; have k3 : Below W2.heap.size W2 W3 := (by rw [hW3]; exact (Below.refl _ _).alloc (Nat.le_refl _) _); have hs3 : W3.heap.size = W1.heap.size + 1 := (by rw [hW3, World.size_alloc, HW2s.out]); clear hW3; rw [← hs3]; have hrow := Kit.owns_below hrow k3 (Nat.le_refl _); refine wpList_append_own_at _ rfl (.tmp 57) (.tmp 63) 53 rfl (b9 + 1) 44 i0 _ 3 48 Tryz.underlying53 hi hz0 hz1 hz2 rfl (by decide) _ _ _ rfl (hrow.alloc _) ⟨W3.heap.size, 0, none⟩ 1 1 (nmL (hd3 (n1, n2))) rfl rfl (news_n W3 (hd3 (n1, n2))) (ones_n _) (by (have := HLN.out; unfold maxLen; omega)) (by (have := HLN.out; omega)) (by simp only [World.size_alloc]; omega) ?_; intro v4 W4 ho4 hg4 _ hk4; have HG4 := hid (hGa.step kk HO.out HG2.out g8 hbx (k3.alloc k3.size _) hg4 ho4 hk4); clear hk4 ho4 hg4 hrow hbx g8 kk k3 hGa hz5 hs3))))
      · go_roundw
        case rel => exact ⟨k + 1, c, _, hf, by omega, by go_num, HG.out.below (HB1.out.alloc HB1.out.size _)⟩
        case measure => simp [intOf]; omega
      · go_roundw
        case rel => exact ⟨k + 1, c', _, hf ++ [(n1, n2)], by omega, by go_num, by simpa using HG4.out⟩
        case measure => simp [intOf]; omega
    · obtain rfl : k = nf := by omega
      have hki : ¬ ((k : Int) < (k : Int)) := by omega
      obtain ⟨lo, hlo⟩ : ∃ lo, lo = wr.heap.size := ⟨_, rfl⟩
      have H2 : Gi w b9 lo #[.int .i64 m.ac, .int .i64 m.nm, .int .i64 m.ds, .int .i64 m.st, .int .i64 m.lc, .slice xa m.code.length xc, .slice ya m.hs.length yc] c _ hf [] (.slice none 0 0) [] (.slice la hf.length lcap) hf wr :=
        ⟨hG.b, hG.bm, hG.bc, ⟨hG.lt.1, by rw [hlo]; exact hG.bc.sz, by omega⟩, hG.cl.step (Off.refl _ _) (fun i _ hb => by
          rcases hb with rfl | hb
          · exact .inl rfl
          · cases hb), hG.gr, ⟨rfl, .inl ⟨rfl, rfl⟩⟩, hG.row, fun i hi => by rw [hlo]; exact own_lt hG.row i hi⟩
      have H3 := hid H2
      clear H2 hp hf9 hm9 bC hG HG hlo hlt
      (clear q0 q1 q2 q3 q4 q5 q6 q7 fq0 fq1 fq2 fq3 fq4 fq5 fq6 fq7)
      go_wp2_with fail
      go_simp
      obtain ⟨wo, rfl⟩ : ∃ wo, wo = wr := ⟨_, rfl⟩
      go_loopw [16, 68] (fun lv i wr => ∃ (k : Nat) (c : Cf.Cl) (vs : Array Value) (hm : List (ByteArray × ByteArray)), k ≤ nm ∧ i = .int .i64 k ∧ Gi w b9 lo #[.int .i64 m.ac, .int .i64 m.nm, .int .i64 m.ds, .int .i64 m.st, .int .i64 m.lc, .slice xa m.code.length xc, .slice ya m.hs.length yc] c vs hf hm lv hm (.slice la hf.length lcap) hf wr) (fun _ i _ => nm - (intOf i).toNat)
      case atStart => exact ⟨0, c, _, [], Nat.zero_le _, rfl, H3.out⟩
      case round =>
        clear H3
        obtain ⟨k, c, vs, hm, hk, rfl, hG⟩ := hrel
        have HG := hid hG
        obtain ⟨pv, fv9, mv9, rfl, hp, hf9, hm9⟩ := hG.cl.here
        obtain ⟨pa2, pc2, rfl⟩ := hp.len
        obtain ⟨fa2, fc2, rfl⟩ := hf9.len
        obtain ⟨ma2, mc2, rfl⟩ := hm9.len
        obtain ⟨lb, lcab, rfl⟩ := L3.own_form hG.row
        have bC := hG.bc
        (have q0 := bC.cell 0; have fq0 := bC.frozen 0; have q1 := bC.cell 1; have fq1 := bC.frozen 1; have q2 := bC.cell 2; have fq2 := bC.frozen 2; have q3 := bC.cell 3; have fq3 := bC.frozen 3; have q4 := bC.cell 4; have fq4 := bC.frozen 4; have q5 := bC.cell 5; have fq5 := bC.frozen 5; have q6 := bC.cell 6; have fq6 := bC.frozen 6; have q7 := bC.cell 7; have fq7 := bC.frozen 7; simp at q0 q1 q2 q3 q4 q5 q6 q7)
        have HLN := hid hG.gr.len
        have hl9 := hG.lt
        have hnmb : nm ≤ 140737488355328 := HM.out.1.2.1
        by_cases hlt : k < nm
        · obtain ⟨⟨n0, n1, n2⟩, hx⟩ : ∃ x, ml[k]? = some x := ⟨ml[k]'(by rw [← HNM.out]; exact hlt), List.getElem?_eq_getElem _⟩
          obtain ⟨b, o, cap', hv2, hbb, c0, c1, c2⟩ := nm_at (v := .slice ma nm mc) (hs := ml) (by rw [← HNM.out]; exact HM.out.1.below hG.b (Nat.le_refl _)) hx
          obtain ⟨rfl, -, rfl⟩ := Value.slice.inj hv2
          have hgd := HM.out.2 _ (List.mem_of_getElem? hx)
          dsimp only at c0 c1 c2 hgd
          have HW' := fun W (kk : Below wr.heap.size wr W) => grm_any (m := m) (cv := .slice xa m.code.length xc) (hv := .slice ya m.hs.length yc) (HT.out.1.below (belows hG.b kk hG.b.size) HT.out.1.size) (HT.out.2.below (belows hG.b kk hG.b.size) HT.out.2.size) hG.gr ((hG.below kk).cl.here) hgd.1 hgd.2
            ((HBH.out.1.below (belows hG.b kk hG.b.size) (Nat.le_refl _)).mono (belows hG.b kk hG.b.size).size) (HBH.out.2.1.below (belows hG.b kk hG.b.size) (Nat.le_refl _)) HBH.out.2.2.1 HBH.out.2.2.2
          unfold mbV at HW'
          have HW := hid HW'
          have hki : (k : Int) < (nm : Int) := by omega
          have hzr : b9 < wr.heap.size := bC.sz
          have bM := hG.bm
          have hzm : w.heap.size < wr.heap.size := bM.sz
          have p0 := bM.cell 0
          have p1 := bM.cell 1
          have p2 := bM.cell 2
          have p3 := bM.cell 3
          have p4 := bM.cell 4
          have p5 := bM.cell 5
          have p6 := bM.cell 6
          simp at p0 p1 p2 p3 p4 p5 p6
          clear hx hv2 hgd hp hf9 hm9 bC hG HW' bM
          go_wp2_with (first | (go_at_call 28; (go_loud (refine (HW.out _ (by repeat' first | with_reducible exact Below.refl _ _ | with_reducible assumption | with_reducible refine belows_drewN ?_ _ | with_reducible refine Below.drew ?_ | with_reducible refine Below.setCell ?_ ?_ _ | with_reducible refine Below.alloc ?_ ?_ _ | omega | (simp; done) | (simp; omega))).mono ?_; rintro e W1 ⟨hr, hb1⟩; have HK1 := hid hb1; obtain ⟨bN, hzN, B1⟩ := belows1 hb1; have s0 := bN.cell 0; have s1 := bN.cell 1; have s2 := bN.cell 2; simp at s0 s1 s2; have bC := HG.out.bc.below B1 HG.out.bc.sz; have hzb : b9 < W1.heap.size := bC.sz; have hnb : ¬ wr.heap.size = b9 := (by have := HG.out.bc.sz; omega); have hnb2 : ¬ b9 = wr.heap.size := (by have := HG.out.bc.sz; omega); have hzN2 : wr.heap.size < W1.heap.size := (by omega); (clear q0 q1 q2 q3 q4 q5 q6 q7 fq0 fq1 fq2 fq3 fq4 fq5 fq6 fq7); (have q0 := bC.cell 0; have fq0 := bC.frozen 0; have q1 := bC.cell 1; have fq1 := bC.frozen 1; have q2 := bC.cell 2; have fq2 := bC.frozen 2; have q3 := bC.cell 3; have fq3 := bC.frozen 3; have q4 := bC.cell 4; have fq4 := bC.frozen 4; have q5 := bC.cell 5; have fq5 := bC.frozen 5; have q6 := bC.cell 6; have fq6 := bC.frozen 6; have q7 := bC.cell 7; have fq7 := bC.frozen 7; simp at q0 q1 q2 q3 q4 q5 q6 q7); have HB1 := hid B1; clear bN B1 bC hb1; rcases hr with ⟨er, hz, rfl⟩ | ⟨c', vs', rfl, hO, hg'⟩; all_goals (first | (have hd : (er == 0) = false := (by simpa using hz); clear hz; unfold K0V) | (have HO := hid hO; have HG2 := hid hg'; obtain ⟨pv', fv', mv', rfl, o1, o2, o3⟩ := hO; obtain ⟨pa', pc', rfl⟩ := L3.own_form o1; obtain ⟨fa', fc', rfl⟩ := OMs.form o2; obtain ⟨ma', mc', rfl⟩ := OMs.form o3; clear o1 o2 o3 hg'))))) | (at_builtin; have _g := HG2; go_loud ((obtain ⟨W2, hW2⟩ : ∃ W, W = ((((((((W1.setCell ⟨b9, 0, none⟩ (.int .i64 c'.mi)).setCell ⟨b9, 1, none⟩ (.int .i64 c'.ma)).setCell ⟨b9, 2, none⟩ (.slice pa' c'.pool.length pc')).setCell ⟨b9, 3, none⟩ (.int .i64 c'.ac)).setCell ⟨b9, 4, none⟩ (.int .i64 c'.th)).setCell ⟨b9, 5, none⟩ (.int .i64 c'.su)).setCell ⟨b9, 6, none⟩ (.slice fa' c'.fs.length fc')).setCell ⟨b9, 7, none⟩ (.slice ma' c'.ms.length mc')) := ⟨_, rfl⟩; rw [← hW2]; have g8 := grown8 W1 b9 (.int .i64 c'.mi) (.int .i64 c'.ma) (.slice pa' c'.pool.length pc') (.int .i64 c'.ac) (.int .i64 c'.th) (.int .i64 c'.su) (.slice fa' c'.fs.length fc') (.slice ma' c'.ms.length mc'); have hbx := put8 (HG.out.bc.below HB1.out HG.out.bc.sz) rfl (.int .i64 c'.mi) (.int .i64 c'.ma) (.slice pa' c'.pool.length pc') (.int .i64 c'.ac) (.int .i64 c'.th) (.int .i64 c'.su) (.slice fa' c'.fs.length fc') (.slice ma' c'.ms.length mc'); have hs2 : W2.heap.size = W1.heap.size := (by rw [hW2]; simp only [World.size_setCell]); rw [← hW2] at g8 hbx; have kk := HK1.out; have hGa := HG.out.below ((Below.refl wr.heap.size wr).alloc (Nat.le_refl _) (.cells #[.string n0, .string n1, .string n2] 44)); have hrow := Kit.owns_grown (hGa.below kk).row g8 (by omega); have hz5 := kk.size; simp only [World.size_alloc] at hz5; have HW2s := hid hs2; clear hW2 hs2; obtain ⟨W3, hW3⟩ : ∃ W, W = W2.alloc (.cells #[.int .i64 c'.mi, .int .i64 c'.ma, .slice pa' c'.pool.length pc', .int .i64 c'.ac, .int .i64 c'.th, .int .i64 c'.su, .slice fa' c'.fs.length fc', .slice ma' c'.ms.length mc'] 26) := ⟨_, rfl⟩; rw [← hW3]; have k3 : Below W2.heap.size W2 W3 := (by rw [hW3]; exact (Below.refl _ _).alloc (Nat.le_refl _) _); have hs3 : W3.heap.size = W1.heap.size + 1 := (by rw [hW3, World.size_alloc, HW2s.out]); clear hW3; rw [← hs3]; have hrow := Kit.owns_below hrow k3 (Nat.le_refl _); refine wpList_append_own_at _ rfl (.tmp 85) (.tmp 91) 53 rfl lo 44 i0 _ 3 48 Tryz.underlying53 hi hz0 hz1 hz2 rfl (by decide) _ _ _ rfl (hrow.alloc _) ⟨W3.heap.size, 0, none⟩ 1 1 (nmL (hd3 (n1, n2))) rfl rfl (news_n W3 (hd3 (n1, n2))) (ones_n _) (by (have := HLN.out; unfold maxLen; omega)) (by (have := HLN.out; omega)) (by simp only [World.size_alloc]; omega) ?_; intro v4 W4 ho4 hg4 _ hk4; have HG4 := hid (hGa.step kk HO.out HG2.out g8 hbx (k3.alloc k3.size _) hg4 ho4 hk4); clear hk4 ho4 hg4 hrow hbx g8 kk k3 hGa hz5 hs3))))
          · go_roundw
            case rel => exact ⟨k + 1, c, _, hm, by omega, by go_num, HG.out.below (HB1.out.alloc HB1.out.size _)⟩
            case measure => simp [intOf]; omega
          · go_roundw
            case rel => exact ⟨k + 1, c', _, hm ++ [(n1, n2)], by omega, by go_num, by simpa using HG4.out⟩
            case measure => simp [intOf]; omega
        · obtain rfl : k = nm := by omega
          have hki : ¬ ((k : Int) < (k : Int)) := by omega
          have HCk := hid (fun W (q : Below wr.heap.size wr W) => check_any c _ W ⟨HT.out.1.below (belows hG.b q hG.b.size) HT.out.1.size, HT.out.2.below (belows hG.b q hG.b.size) HT.out.2.size, hG.gr.sz.1, hG.gr.sz.2⟩ ((hG.below q).cl.here))
          have hd1 : ((c.fs.length : Int) != (hf.length : Int)) = false := by simp [HLN.out.1]
          have hd2 : ((c.ms.length : Int) != (hm.length : Int)) = false := by simp [HLN.out.2.1]
          clear hp hf9 hm9 bC hG
          go_wp2_with (first | (go_at_call 17; go_loud (refine (HCk.out _ (by repeat' first | with_reducible exact Below.refl _ _ | with_reducible assumption | with_reducible refine belows_drewN ?_ _ | with_reducible refine Below.drew ?_ | with_reducible refine Below.setCell ?_ ?_ _ | with_reducible refine Below.alloc ?_ ?_ _ | omega | (simp; done) | (simp; omega))).mono ?_; rintro e w9 ⟨er, hcl9, rfl, hb9k⟩; obtain rfl : er = 0 := Cf.ClIs.det hcl9 HG.out.gr.ok; have bC := HG.out.bc.below hb9k HG.out.bc.sz; (clear q0 q1 q2 q3 q4 q5 q6 q7 fq0 fq1 fq2 fq3 fq4 fq5 fq6 fq7); (have q0 := bC.cell 0; have fq0 := bC.frozen 0; have q1 := bC.cell 1; have fq1 := bC.frozen 1; have q2 := bC.cell 2; have fq2 := bC.frozen 2; have q3 := bC.cell 3; have fq3 := bC.frozen 3; have q4 := bC.cell 4; have fq4 := bC.frozen 4; have q5 := bC.cell 5; have fq5 := bC.frozen 5; have q6 := bC.cell 6; have fq6 := bC.frozen 6; have q7 := bC.cell 7; have fq7 := bC.frozen 7; simp at q0 q1 q2 q3 q4 q5 q6 q7); have HB9 := hid hb9k; clear bC hcl9 hb9k)))
          -- LOOPS
          have HG5 := hid (HG.out.below HB9.out)
          obtain ⟨hMf, hMm⟩ := HG5.out.cl.here.two
          have HMs := hid (And.intro hMf hMm)
          have HNS := hid (And.intro (Kit.isS_of_owns HG5.out.old (by have := HLN.out; omega)) (Kit.isS_of_owns HG5.out.row (by have := HLN.out; omega)))
          clear HG HCk hd1 hd2 hMf hMm hl9
          (clear q0 q1 q2 q3 q4 q5 q6 q7 fq0 fq1 fq2 fq3 fq4 fq5 fq6 fq7)
          obtain ⟨wq, rfl⟩ : ∃ wq, wq = wr := ⟨_, rfl⟩
          go_loopw [115] (fun i wr => ∃ k : Nat, k ≤ hf.length ∧ i = .int .i64 k ∧ Below w9.heap.size w9 wr) (fun i _ => hf.length - (intOf i).toNat)
          case atStart => exact ⟨0, Nat.zero_le _, rfl, Below.refl _ _⟩
          case round =>
            obtain ⟨k, hk, rfl, hbl⟩ := hrel
            have HJ := hid hbl
            have hzr := hbl.size
            by_cases hlt : k < hf.length
            · obtain ⟨⟨a, b'⟩, hab⟩ : ∃ x, hf[k]? = some x := ⟨hf[k], List.getElem?_eq_getElem hlt⟩
              obtain ⟨x, hx⟩ : ∃ x, c.fs[k]? = some x := ⟨c.fs[k]'(by have := HLN.out; omega), List.getElem?_eq_getElem _⟩
              have hmb : Cf.mbO c.pool x = ((a, b'), 0) := by
                obtain ⟨n, h1, h2⟩ := HG5.out.gr.f.2 k x hx
                rw [hab] at h1
                obtain rfl := Option.some.inj h1
                exact h2
              obtain ⟨b, o, cap', cv, hw, hv2, hbb, hB, hH, -, c0, c1, c2, c3, c4, c5, c6⟩ := ((HMs.out.1).below hbl (Nat.le_refl _)).at hx
              obtain ⟨rfl, -, rfl⟩ := Value.slice.inj hv2
              have HA1 := fun W (q : Below w9.heap.size w9 W) => member_any c _ x cv hw W (HG5.out.cl.here.below q (Nat.le_refl _))
              rw [hmb] at HA1
              obtain ⟨ba, bc, rfl⟩ := hB.len
              obtain ⟨ha, hc, rfl⟩ := hH.len
              unfold ndV mbV at HA1
              dsimp only at HA1
              have HA := hid HA1
              have i1 : (k : Int) < (hf.length : Int) := by omega
              have i2 : (k : Int) < (c.fs.length : Int) := by have := HLN.out; omega
              have HAB := hid hab
              have hlb : hf.length ≤ 256 := by have := HLN.out; omega
              have bC := HG5.out.bc.below hbl HG5.out.bc.sz
              have hzc := bC.sz
              (have q0 := bC.cell 0; have fq0 := bC.frozen 0; have q1 := bC.cell 1; have fq1 := bC.frozen 1; have q2 := bC.cell 2; have fq2 := bC.frozen 2; have q3 := bC.cell 3; have fq3 := bC.frozen 3; have q4 := bC.cell 4; have fq4 := bC.frozen 4; have q5 := bC.cell 5; have fq5 := bC.frozen 5; have q6 := bC.cell 6; have fq6 := bC.frozen 6; have q7 := bC.cell 7; have fq7 := bC.frozen 7; simp at q0 q1 q2 q3 q4 q5 q6 q7)
              have hn1 : ¬ wr.heap.size = b9 := by omega
              have hn2 : ¬ wr.heap.size = b := by omega
              clear hv2 hB hH HA1 hx hab hmb bC hbl
              go_wp2_with fail
              go_region_held3 (fun w' => w'.cell? ⟨b9, 0, none⟩ = some (.int .i64 c.mi) ∧ w'.cell? ⟨b9, 1, none⟩ = some (.int .i64 c.ma) ∧ w'.cell? ⟨b9, 2, none⟩ = some (.slice pa2 c.pool.length pc2) ∧ w'.cell? ⟨b9, 3, none⟩ = some (.int .i64 c.ac) ∧ w'.cell? ⟨b9, 4, none⟩ = some (.int .i64 c.th) ∧ w'.cell? ⟨b9, 5, none⟩ = some (.int .i64 c.su) ∧ w'.cell? ⟨b9, 6, none⟩ = some (.slice (some ⟨b, o, none⟩) c.fs.length fc2) ∧ w'.cell? ⟨b9, 7, none⟩ = some (.slice ma2 c.ms.length mc2) ∧ w'.cell? ⟨b, o + k * 7, none⟩ = some (.int .i64 x.ac) ∧ w'.cell? ⟨b, o + k * 7 + 1, none⟩ = some (.int .i64 x.nm) ∧ w'.cell? ⟨b, o + k * 7 + 2, none⟩ = some (.int .i64 x.ds) ∧ w'.cell? ⟨b, o + k * 7 + 3, none⟩ = some (.int .i64 x.st) ∧ w'.cell? ⟨b, o + k * 7 + 4, none⟩ = some (.int .i64 x.lc) ∧ w'.cell? ⟨b, o + k * 7 + 5, none⟩ = some (.slice ba x.code.length bc) ∧ w'.cell? ⟨b, o + k * 7 + 6, none⟩ = some (.slice ha x.hs.length hc))
                (first | exact ⟨q0, q1, q2, q3, q4, q5, q6, q7, c0, c1, c2, c3, c4, c5, c6⟩ | go_keep)
                (first | (go_at_call 24; have hJ := HJ.out; refine (HA.out _ (by repeat' first | with_reducible exact Below.refl _ _ | with_reducible assumption | with_reducible refine belows_drewN ?_ _ | with_reducible refine Below.drew ?_ | with_reducible refine Below.setCell ?_ ?_ _ | with_reducible refine Below.alloc ?_ ?_ _ | omega | (simp; done) | (simp; omega))).mono ?_; rintro e w2 ⟨rfl, hb2⟩; have hB2 : Below wr.heap.size wr w2 := (by first | exact below_undrew hb2 | exact belows (((Below.refl wr.heap.size wr).drew).alloc (by simp) _) hb2 (by simp)); (try (have bX := (L3.BX.new wr.drew #[.string ⟨#[]⟩, .string ⟨#[]⟩, .string ⟨#[]⟩] 44).below hb2 (by simp); have HBX := hid bX; have xq0 := bX.cell 0; have xq1 := bX.cell 1; have xq2 := bX.cell 2; have fx0 := bX.frozen 0; have fx1 := bX.frozen 1; have fx2 := bX.frozen 2; have hzx := bX.sz; simp at xq0 xq1 xq2 fx0 fx1 fx2 hzx; clear bX)); have HJ2 := hid (belows HJ.out hB2 HJ.out.size); have bC := HG5.out.bc.below HJ2.out HG5.out.bc.sz; (clear q0 q1 q2 q3 q4 q5 q6 q7 fq0 fq1 fq2 fq3 fq4 fq5 fq6 fq7); (have q0 := bC.cell 0; have fq0 := bC.frozen 0; have q1 := bC.cell 1; have fq1 := bC.frozen 1; have q2 := bC.cell 2; have fq2 := bC.frozen 2; have q3 := bC.cell 3; have fq3 := bC.frozen 3; have q4 := bC.cell 4; have fq4 := bC.frozen 4; have q5 := bC.cell 5; have fq5 := bC.frozen 5; have q6 := bC.cell 6; have fq6 := bC.frozen 6; have q7 := bC.cell 7; have fq7 := bC.frozen 7; simp at q0 q1 q2 q3 q4 q5 q6 q7); have c0 := (hB2.cell (p := ⟨b, o + k * 7, none⟩) (by simpa using hbb)).trans c0; have c1 := (hB2.cell (p := ⟨b, o + k * 7 + 1, none⟩) (by simpa using hbb)).trans c1; have c2 := (hB2.cell (p := ⟨b, o + k * 7 + 2, none⟩) (by simpa using hbb)).trans c2; have c3 := (hB2.cell (p := ⟨b, o + k * 7 + 3, none⟩) (by simpa using hbb)).trans c3; have c4 := (hB2.cell (p := ⟨b, o + k * 7 + 4, none⟩) (by simpa using hbb)).trans c4; have c5 := (hB2.cell (p := ⟨b, o + k * 7 + 5, none⟩) (by simpa using hbb)).trans c5; have c6 := (hB2.cell (p := ⟨b, o + k * 7 + 6, none⟩) (by simpa using hbb)).trans c6; clear bC))
              all_goals
                go_wp2_with fail
                refine region_named fun W5 hW5 => ?_
                have hz2 := HJ2.out.size
                have hJ := HJ.out
                have HJ5 : Hid (Below w9.heap.size w9 W5) := by
                  show Below w9.heap.size w9 W5
                  rw [hW5]
                  first
                    | exact HJ2.out.alloc hz2 _
                    | (refine Below.setCell (Below.setCell (Below.setCell HJ2.out ?_ _) ?_ _) ?_ _ <;> simpa using hzr)
                first
                  | (have bY : L3.BX W5 w2.heap.size #[.string ⟨#[]⟩, .string a, .string b'] 44 := by rw [hW5]; exact L3.BX.new _ _ _)
                  | (have bY : L3.BX W5 wr.heap.size #[.string ⟨#[]⟩, .string a, .string b'] 44 := by rw [hW5]; exact ((HBX.out.set 0 _).set 1 _).set 2 _)
                have y0 := bY.cell 0
                have y1 := bY.cell 1
                have y2 := bY.cell 2
                simp at y0 y1 y2
                obtain ⟨b5, o5, cap5, hv5, hbb5, d0, d1, d2⟩ := nm_at (hs := hf.map hd3) (k := k) (x := hd3 (a, b')) (by rw [List.length_map]; exact HNS.out.1.below HJ5.out (Nat.le_refl _)) (by rw [List.getElem?_map, HAB.out]; rfl)
                rw [List.length_map] at hv5
                obtain ⟨rfl, -, rfl⟩ := Value.slice.inj hv5
                unfold hd3 at d0 d1 d2
                dsimp only at d0 d1 d2
                clear hW5 hv5 bY hJ q0 q1 q2 q3 q4 q5 q6 q7 fq0 fq1 fq2 fq3 fq4 fq5 fq6 fq7 c0 c1 c2 c3 c4 c5 c6
                go_quiet (fail)
                go_wp2
                go_roundw
                case rel => exact ⟨k + 1, by omega, by go_num, belows_drewN HJ5.out _⟩
                case measure => simp [intOf]; omega
            · obtain rfl : k = hf.length := by omega
              have hki : ¬ ((hf.length : Int) < (hf.length : Int)) := by omega
              clear hbl
              go_wp2_with fail
              go_simp
              obtain ⟨wp, rfl⟩ : ∃ wp, wp = wr := ⟨_, rfl⟩
              go_loopw [141] (fun i wr => ∃ k : Nat, k ≤ hm.length ∧ i = .int .i64 k ∧ Below w9.heap.size w9 wr) (fun i _ => hm.length - (intOf i).toNat)
              case atStart => exact ⟨0, Nat.zero_le _, rfl, HJ.out⟩
              case round =>
                obtain ⟨k, hk, rfl, hbl⟩ := hrel
                have HJ := hid hbl
                have hzr := hbl.size
                by_cases hlt : k < hm.length
                · obtain ⟨⟨a, b'⟩, hab⟩ : ∃ x, hm[k]? = some x := ⟨hm[k], List.getElem?_eq_getElem hlt⟩
                  obtain ⟨x, hx⟩ : ∃ x, c.ms[k]? = some x := ⟨c.ms[k]'(by have := HLN.out; omega), List.getElem?_eq_getElem _⟩
                  have hmb : Cf.mbO c.pool x = ((a, b'), 0) := by
                    obtain ⟨n, h1, h2⟩ := HG5.out.gr.m.2 k x hx
                    rw [hab] at h1
                    obtain rfl := Option.some.inj h1
                    exact h2
                  obtain ⟨b, o, cap', cv, hw, hv2, hbb, hB, hH, -, c0, c1, c2, c3, c4, c5, c6⟩ := ((HMs.out.2).below hbl (Nat.le_refl _)).at hx
                  obtain ⟨rfl, -, rfl⟩ := Value.slice.inj hv2
                  have HA1 := fun W (q : Below w9.heap.size w9 W) => member_any c _ x cv hw W (HG5.out.cl.here.below q (Nat.le_refl _))
                  rw [hmb] at HA1
                  obtain ⟨ba, bc, rfl⟩ := hB.len
                  obtain ⟨ha, hc, rfl⟩ := hH.len
                  unfold ndV mbV at HA1
                  dsimp only at HA1
                  have HA := hid HA1
                  have i1 : (k : Int) < (hm.length : Int) := by omega
                  have i2 : (k : Int) < (c.ms.length : Int) := by have := HLN.out; omega
                  have HAB := hid hab
                  have hlb : hm.length ≤ 256 := by have := HLN.out; omega
                  have bC := HG5.out.bc.below hbl HG5.out.bc.sz
                  have hzc := bC.sz
                  (have q0 := bC.cell 0; have fq0 := bC.frozen 0; have q1 := bC.cell 1; have fq1 := bC.frozen 1; have q2 := bC.cell 2; have fq2 := bC.frozen 2; have q3 := bC.cell 3; have fq3 := bC.frozen 3; have q4 := bC.cell 4; have fq4 := bC.frozen 4; have q5 := bC.cell 5; have fq5 := bC.frozen 5; have q6 := bC.cell 6; have fq6 := bC.frozen 6; have q7 := bC.cell 7; have fq7 := bC.frozen 7; simp at q0 q1 q2 q3 q4 q5 q6 q7)
                  have hn1 : ¬ wr.heap.size = b9 := by omega
                  have hn2 : ¬ wr.heap.size = b := by omega
                  clear hv2 hB hH HA1 hx hab hmb bC hbl
                  go_wp2_with fail
                  go_region_held3 (fun w' => w'.cell? ⟨b9, 0, none⟩ = some (.int .i64 c.mi) ∧ w'.cell? ⟨b9, 1, none⟩ = some (.int .i64 c.ma) ∧ w'.cell? ⟨b9, 2, none⟩ = some (.slice pa2 c.pool.length pc2) ∧ w'.cell? ⟨b9, 3, none⟩ = some (.int .i64 c.ac) ∧ w'.cell? ⟨b9, 4, none⟩ = some (.int .i64 c.th) ∧ w'.cell? ⟨b9, 5, none⟩ = some (.int .i64 c.su) ∧ w'.cell? ⟨b9, 6, none⟩ = some (.slice fa2 c.fs.length fc2) ∧ w'.cell? ⟨b9, 7, none⟩ = some (.slice (some ⟨b, o, none⟩) c.ms.length mc2) ∧ w'.cell? ⟨b, o + k * 7, none⟩ = some (.int .i64 x.ac) ∧ w'.cell? ⟨b, o + k * 7 + 1, none⟩ = some (.int .i64 x.nm) ∧ w'.cell? ⟨b, o + k * 7 + 2, none⟩ = some (.int .i64 x.ds) ∧ w'.cell? ⟨b, o + k * 7 + 3, none⟩ = some (.int .i64 x.st) ∧ w'.cell? ⟨b, o + k * 7 + 4, none⟩ = some (.int .i64 x.lc) ∧ w'.cell? ⟨b, o + k * 7 + 5, none⟩ = some (.slice ba x.code.length bc) ∧ w'.cell? ⟨b, o + k * 7 + 6, none⟩ = some (.slice ha x.hs.length hc))
                    (first | exact ⟨q0, q1, q2, q3, q4, q5, q6, q7, c0, c1, c2, c3, c4, c5, c6⟩ | go_keep)
                    (first | (go_at_call 24; have hJ := HJ.out; refine (HA.out _ (by repeat' first | with_reducible exact Below.refl _ _ | with_reducible assumption | with_reducible refine belows_drewN ?_ _ | with_reducible refine Below.drew ?_ | with_reducible refine Below.setCell ?_ ?_ _ | with_reducible refine Below.alloc ?_ ?_ _ | omega | (simp; done) | (simp; omega))).mono ?_; rintro e w2 ⟨rfl, hb2⟩; have hB2 : Below wr.heap.size wr w2 := (by first | exact below_undrew hb2 | exact belows (((Below.refl wr.heap.size wr).drew).alloc (by simp) _) hb2 (by simp)); (try (have bX := (L3.BX.new wr.drew #[.string ⟨#[]⟩, .string ⟨#[]⟩, .string ⟨#[]⟩] 44).below hb2 (by simp); have HBX := hid bX; have xq0 := bX.cell 0; have xq1 := bX.cell 1; have xq2 := bX.cell 2; have fx0 := bX.frozen 0; have fx1 := bX.frozen 1; have fx2 := bX.frozen 2; have hzx := bX.sz; simp at xq0 xq1 xq2 fx0 fx1 fx2 hzx; clear bX)); have HJ2 := hid (belows HJ.out hB2 HJ.out.size); have bC := HG5.out.bc.below HJ2.out HG5.out.bc.sz; (clear q0 q1 q2 q3 q4 q5 q6 q7 fq0 fq1 fq2 fq3 fq4 fq5 fq6 fq7); (have q0 := bC.cell 0; have fq0 := bC.frozen 0; have q1 := bC.cell 1; have fq1 := bC.frozen 1; have q2 := bC.cell 2; have fq2 := bC.frozen 2; have q3 := bC.cell 3; have fq3 := bC.frozen 3; have q4 := bC.cell 4; have fq4 := bC.frozen 4; have q5 := bC.cell 5; have fq5 := bC.frozen 5; have q6 := bC.cell 6; have fq6 := bC.frozen 6; have q7 := bC.cell 7; have fq7 := bC.frozen 7; simp at q0 q1 q2 q3 q4 q5 q6 q7); have c0 := (hB2.cell (p := ⟨b, o + k * 7, none⟩) (by simpa using hbb)).trans c0; have c1 := (hB2.cell (p := ⟨b, o + k * 7 + 1, none⟩) (by simpa using hbb)).trans c1; have c2 := (hB2.cell (p := ⟨b, o + k * 7 + 2, none⟩) (by simpa using hbb)).trans c2; have c3 := (hB2.cell (p := ⟨b, o + k * 7 + 3, none⟩) (by simpa using hbb)).trans c3; have c4 := (hB2.cell (p := ⟨b, o + k * 7 + 4, none⟩) (by simpa using hbb)).trans c4; have c5 := (hB2.cell (p := ⟨b, o + k * 7 + 5, none⟩) (by simpa using hbb)).trans c5; have c6 := (hB2.cell (p := ⟨b, o + k * 7 + 6, none⟩) (by simpa using hbb)).trans c6; clear bC))
                  all_goals
                    go_wp2_with fail
                    refine region_named fun W5 hW5 => ?_
                    have hz2 := HJ2.out.size
                    have hJ := HJ.out
                    have HJ5 : Hid (Below w9.heap.size w9 W5) := by
                      show Below w9.heap.size w9 W5
                      rw [hW5]
                      first
                        | exact HJ2.out.alloc hz2 _
                        | (refine Below.setCell (Below.setCell (Below.setCell HJ2.out ?_ _) ?_ _) ?_ _ <;> simpa using hzr)
                    first
                      | (have bY : L3.BX W5 w2.heap.size #[.string ⟨#[]⟩, .string a, .string b'] 44 := by rw [hW5]; exact L3.BX.new _ _ _)
                      | (have bY : L3.BX W5 wr.heap.size #[.string ⟨#[]⟩, .string a, .string b'] 44 := by rw [hW5]; exact ((HBX.out.set 0 _).set 1 _).set 2 _)
                    have y0 := bY.cell 0
                    have y1 := bY.cell 1
                    have y2 := bY.cell 2
                    simp at y0 y1 y2
                    obtain ⟨b5, o5, cap5, hv5, hbb5, d0, d1, d2⟩ := nm_at (hs := hm.map hd3) (k := k) (x := hd3 (a, b')) (by rw [List.length_map]; exact HNS.out.2.below HJ5.out (Nat.le_refl _)) (by rw [List.getElem?_map, HAB.out]; rfl)
                    rw [List.length_map] at hv5
                    obtain ⟨rfl, -, rfl⟩ := Value.slice.inj hv5
                    unfold hd3 at d0 d1 d2
                    dsimp only at d0 d1 d2
                    clear hW5 hv5 bY hJ q0 q1 q2 q3 q4 q5 q6 q7 fq0 fq1 fq2 fq3 fq4 fq5 fq6 fq7 c0 c1 c2 c3 c4 c5 c6
                    go_quiet (fail)
                    go_wp2
                    go_roundw
                    case rel => exact ⟨k + 1, by omega, by go_num, belows_drewN HJ5.out _⟩
                    case measure => simp [intOf]; omega
                · obtain rfl : k = hm.length := by omega
                  have hki : ¬ ((hm.length : Int) < (hm.length : Int)) := by omega
                  have B9 := HG5.out.b
                  have Bf := belows B9 hbl B9.size
                  go_wp2_with fail
                  go_ret
                  exact ⟨rfl, Bf⟩
end Go.Proofs.YtjnjnfhboafcgaaGreatDoor
namespace Go.Proofs.YtjnjnfhboafcgaaGreatDoor
open Go.ChangeShapes Go.WideShapes Go.ChangeAt Go.RowKit Go.WideMaps Go.WideElems

theorem i6_wf {z : Int} (h : (Lit.int .i64 z).wf = true) : L3.I6 z := by
  simp [Lit.wf, IntKind.min, IntKind.max, IntKind.signed, IntKind.bits] at h
  unfold L3.I6
  omega
section
variable {H : Type} {enc : TypeId × Value → H}
theorem weights_allT {P : Program} {e : TypeId} : ∀ {ds : List (DataW H)} {d : DataW H}, d ∈ ds → (DataW.weightsAll P e ds).all (· ≤ reachBytes) = true → (d.weights P e).all (· ≤ reachBytes) = true
  | [], _, h, _ => by cases h
  | x :: r, d, h, hw => by
    simp only [DataW.weightsAll, List.all_append, Bool.and_eq_true] at hw
    rcases List.mem_cons.1 h with rfl | h
    · exact hw.1
    · exact weights_allT h hw.2
theorem bulk_pos (d : DataW H) : 1 ≤ Rows.uptoBulk d := by
  cases d with
  | lit l => cases l <;> simp [Rows.uptoBulk]
  | _ => simp [Rows.uptoBulk]
theorem bulk_len : ∀ l : List (DataW H), l.length ≤ Rows.uptoBulkAll l
  | [] => by simp [Rows.uptoBulkAll]
  | x :: r => by have h1 := bulk_pos x; have h2 := bulk_len r; simp only [Rows.uptoBulkAll, List.length_cons]; omega
theorem bulk_mem : ∀ {l : List (DataW H)} {d : DataW H}, d ∈ l → Rows.uptoBulk d ≤ Rows.uptoBulkAll l
  | [], _, h => by cases h
  | x :: r, d, h => by
    simp only [Rows.uptoBulkAll]
    rcases List.mem_cons.1 h with rfl | h
    · omega
    · have := bulk_mem h; omega
theorem A.cellsInt : Tryz.prog.cellsOf 3 = 1 := by kernel_rfl
theorem A.cellsStr : Tryz.prog.cellsOf 9 = 1 := by kernel_rfl
theorem A.cellsU8 : Tryz.prog.cellsOf 5 = 1 := by kernel_rfl
theorem A.bytesU8 : Tryz.prog.bytesOf 5 = 1 := by kernel_rfl
/-- Bytes in a cell. -/
theorem bs_cell {W : World} {n : Nat} {k : Value} {y : DataW H × List MemPlace} (h : DataW.trod enc Tryz.prog W 0 (fun _ => true) true n 22 [k] = some y) (hw : (y.1.weights Tryz.prog 22).all (· ≤ reachBytes) = true) :
    ∃ bs : List UInt8, L3.Bs W.heap.size W k bs ∧ bs.length ≤ 140737488351232 ∧ bs.length ≤ Rows.uptoBulk y.1 := by
  rcases open_ints Tryz.underlying22 Tryz.underlying5 A.cellsU8 h with ⟨hcs, rfl⟩ | ⟨a, len, cap, zs, hcs, _, hl, hm, hz, rfl, hcell, hwz⟩
  · obtain rfl : k = .slice none 0 0 := by simpa using hcs
    exact ⟨[], ⟨by simp, .inl ⟨rfl, none, 0, rfl⟩⟩, by simp, by simp⟩
  · obtain rfl : k = .slice (some a) len cap := by simpa using hcs
    simp only [if_true] at hz
    simp only [DataW.weights, Tryz.underlying22, List.all_cons, Bool.and_eq_true, decide_eq_true_eq, A.bytesU8, Nat.mul_one] at hw
    have hcap : cap ≤ 140737488351232 := by
      have := hw.1
      simp [lits, reachBytes] at this
      omega
    have hbl : len ≤ Rows.uptoBulk (.slice (lits .u8 (zs.take len)) (lits .u8 (zs.drop len)) : DataW H) := by
      have := bulk_len (lits (H := H) .u8 (zs.take len))
      simp only [Rows.uptoBulk]
      simp [lits] at this ⊢
      omega
    refine ⟨(zs.take len).map fun z => UInt8.ofNat z.toNat, ⟨by simp; omega, ?_⟩, by simp; omega, by simp only [List.length_map, List.length_take]; omega⟩
    have hlen : ((zs.take len).map fun z => UInt8.ofNat z.toNat).length = len := by simp; omega
    by_cases h0 : len = 0
    · exact .inl ⟨by rw [h0]; rfl, some a, cap, by rw [h0]⟩
    · obtain ⟨b, off, rfl, hc⟩ := ints_at hcell (by omega)
      refine .inr ⟨b, off, cap, by rw [hlen], by rw [hlen]; exact hl, ?_, fun i c hi => ?_⟩
      · exact World.block_lt_of_cell? W _ (hc 0 (by omega))
      · have hil : i < len := by
          rw [List.getElem?_eq_some_iff] at hi
          have := hi.1
          omega
        rw [show W.cell? ⟨b, off + i, none⟩ = _ from hc i (by omega)]
        have hzi : zs[i]? = some (zs.getD i 0) := by simp [show i < zs.length by omega]
        have h1 := bounds_u8 (hwz _ (List.mem_of_getElem? hzi))
        rw [List.getElem?_map, List.getElem?_take_of_lt hil, hzi] at hi
        simp only [Option.map_some, Option.some.injEq] at hi
        subst hi
        unfold L3.bv
        rw [UInt8.toNat_ofNat']
        congr 3
        omega
set_option maxRecDepth 100000 in
/-- A list of things of so many cells each, in a cell. -/
theorem list_cell {α : Type} {W : World} {n : Nat} {k : Value} {y : DataW H × List MemPlace} {tS tE : TypeId} {s by_ : Nat} (G : DataW H → List Value → α → Prop) (hG : ∀ d cs x, G d cs x → cs.length = s) (hs : 0 < s)
    (hu : Tryz.prog.underlying tS = some (.slice tE)) (hco : Tryz.prog.cellsOf tE = s) (hby : Tryz.prog.bytesOf tE = by_) (hb0 : 0 < by_)
    (he : ∀ (m : Nat) (cs : List Value) (z : DataW H × List MemPlace), DataW.trod enc Tryz.prog W 0 (fun _ => true) true m tE cs = some z → (z.1.weights Tryz.prog tE).all (· ≤ reachBytes) = true → ∃ x, G z.1 cs x)
    (h : DataW.trod enc Tryz.prog W 0 (fun _ => true) true n tS [k] = some y) (hw : (y.1.weights Tryz.prog tS).all (· ≤ reachBytes) = true) :
    ∃ (xs : List α) (rs : List (List Value)), rs.length = xs.length ∧ (∀ (i : Nat) (r : List Value) (x : α), rs[i]? = some r → xs[i]? = some x → ∃ d, G d r x ∧ Rows.uptoBulk d ≤ Rows.uptoBulk y.1) ∧ Kit.IsS s W k xs.length rs.flatten ∧ xs.length * by_ ≤ 140737488351232 ∧ xs.length ≤ Rows.uptoBulk y.1 := by
  rcases DataW.trod_slice hu h with ⟨hcs, rfl⟩ | ⟨a, len, cap, elems, rest, m, -, hcs, rfl, -, hl, hm, hel, hcells, hsp, -⟩
  · obtain rfl : k = .slice none 0 0 := by simpa using hcs
    exact ⟨[], [], rfl, fun i r x hr => by simp at hr, ⟨by simp, by simp, .inl ⟨rfl, none, 0, rfl⟩⟩, by simp, by simp⟩
  · obtain rfl : k = .slice (some a) len cap := by simpa using hcs
    simp only [DataW.weights, hu, List.all_cons, List.all_append, Bool.and_eq_true, decide_eq_true_eq, hby] at hw
    have hcap : len * by_ ≤ 140737488351232 := by
      have h1 := hw.1
      simp only [List.length_map, reachBytes] at h1
      rw [hel] at h1
      exact Nat.le_trans (Nat.mul_le_mul_right _ (Nat.le_add_right _ _)) h1
    have hbl : len ≤ Rows.uptoBulk (.slice (elems.map (·.1)) (rest.map (·.1)) : DataW H) := by
      have := bulk_len (elems.map (·.1))
      rw [List.length_map, hel] at this
      simp only [Rows.uptoBulk]
      omega
    have each : ∀ i, ∃ q : List Value × Option α, i < len → q.1.length = s ∧ (∀ j, j < s → W.cell? ((a.add (i * s)).add j) = q.1[j]?) ∧ ∃ x d, q.2 = some x ∧ G d q.1 x ∧ Rows.uptoBulk d ≤ Rows.uptoBulk (.slice (elems.map (·.1)) (rest.map (·.1)) : DataW H) := by
      intro i
      by_cases hi : i < len
      · have h1 := hcells i hi
        rw [hco, List.getElem?_eq_getElem (by omega), Option.bind_eq_some_iff] at h1
        obtain ⟨cs, hcs', htr⟩ := h1
        have hmem : elems[i].1 ∈ elems.map (·.1) := List.mem_map_of_mem (List.getElem_mem _)
        obtain ⟨x, hx⟩ := he _ _ _ htr (weights_allT hmem hw.2.1)
        refine ⟨(cs, some x), fun _ => ⟨hG _ _ _ hx, fun j hj => (World.cells?_some hcs').2.2 j hj, x, _, rfl, hx, ?_⟩⟩
        have := bulk_mem hmem
        simp only [Rows.uptoBulk]
        omega
      · exact ⟨([], none), fun h => absurd h hi⟩
    obtain ⟨f, hfx⟩ := Classical.skolem.1 each
    have hxs : ∃ xs : List α, xs.length = len ∧ ∀ i, i < len → xs[i]? = (f i).2 := by
      have : ∀ m, m ≤ len → ∃ xs : List α, xs.length = m ∧ ∀ i, i < m → xs[i]? = (f i).2 := by
        intro m
        induction m with
        | zero => intro _; exact ⟨[], rfl, fun i hi => by omega⟩
        | succ m ih =>
          intro hm
          obtain ⟨xs, h1, h2⟩ := ih (by omega)
          obtain ⟨-, -, x, d, hx, -⟩ := hfx m (by omega)
          refine ⟨xs ++ [x], by simp [h1], fun i hi => ?_⟩
          by_cases e : i < m
          · rw [List.getElem?_append_left (by omega)]; exact h2 i e
          · obtain rfl : i = m := by omega
            rw [List.getElem?_append_right (by omega), h1, Nat.sub_self, hx]
            rfl
      exact this len (Nat.le_refl _)
    obtain ⟨xs, hxl, hxe⟩ := hxs
    have hrl : ∀ r ∈ (List.range len).map (fun i => (f i).1), r.length = s := by
      intro r hr
      obtain ⟨i, hi, rfl⟩ := List.mem_map.1 hr
      exact (hfx i (List.mem_range.1 hi)).1
    have hfl : ∀ (rs : List (List Value)), (∀ r ∈ rs, r.length = s) → rs.flatten.length = rs.length * s ∧ ∀ i r, rs[i]? = some r → ∀ j, j < s → rs.flatten[i * s + j]? = r[j]? := by
      intro rs
      induction rs with
      | nil => intro _; exact ⟨by simp, fun i r hr => by simp at hr⟩
      | cons r0 rs ih =>
        intro hr
        obtain ⟨h1, h2⟩ := ih (fun r h => hr r (List.mem_cons_of_mem _ h))
        have h0 := hr r0 (by simp)
        refine ⟨by rw [List.flatten_cons, List.length_append, h0, h1, List.length_cons, Nat.succ_mul]; omega, fun i r hi j hj => ?_⟩
        match i, hi with
        | 0, hi =>
          simp at hi
          subst hi
          rw [List.flatten_cons, List.getElem?_append_left (by omega)]
          simp
        | i + 1, hi =>
          rw [List.flatten_cons, List.getElem?_append_right (by rw [h0, Nat.succ_mul]; omega), h0, ← h2 i r (by simpa using hi) j hj]
          congr 1
          rw [Nat.succ_mul]
          omega
    obtain ⟨hfl1, hfl2⟩ := hfl _ hrl
    have hrlen : ((List.range len).map (fun i => (f i).1)).length = len := by simp
    refine ⟨xs, (List.range len).map (fun i => (f i).1), by rw [hrlen, hxl], fun i r x hr hx => ?_, ⟨by rw [hfl1, hrlen, hxl], by rw [hxl]; exact Nat.le_trans (Nat.le_trans (Nat.le_mul_of_pos_right _ hb0) hcap) (by decide), ?_⟩, by rw [hxl]; exact hcap, by rw [hxl]; exact hbl⟩
    · have hi : i < len := by
        have := (List.getElem?_eq_some_iff.1 hx).1
        omega
      obtain ⟨-, -, x', d, hx', hg, hb⟩ := hfx i hi
      rw [hxe i hi, hx'] at hx
      cases hx
      rw [List.getElem?_map, List.getElem?_range hi] at hr
      simp only [Option.map_some, Option.some.injEq] at hr
      subst hr
      exact ⟨d, hg, hb⟩
    · by_cases h0 : len = 0
      · exact .inl ⟨by rw [hxl, h0], some a, cap, by rw [h0]⟩
      · obtain ⟨b, o, spot⟩ := a
        have hsp0 : ∃ u, W.cell? (((⟨b, o, spot⟩ : Addr).add (0 * s)).add 0) = some u := by
          obtain ⟨h1, h2, -⟩ := hfx 0 (by omega)
          refine ⟨(f 0).1[0]'(by omega), ?_⟩
          rw [h2 0 hs, List.getElem?_eq_getElem]
        obtain ⟨u0, hsp0⟩ := hsp0
        have hspot : spot = none := by
          have := World.cell?_spot hsp0
          simpa [Addr.add] using this
        subst hspot
        have hat : ∀ i j, ((⟨b, o, none⟩ : Addr).add i).add j = ⟨b, o + (i + j), none⟩ := by
          intro i j
          rw [add_plain, add_plain]; congr 1; omega
        refine .inr ⟨b, o, cap, by rw [hxl], by rw [hxl]; exact hl, ?_, fun i u hi => ?_⟩
        · have := World.block_lt_of_cell? W _ hsp0
          simpa [Addr.add] using this
        · have hil : i < len * s := by
            have := (List.getElem?_eq_some_iff.1 hi).1
            rw [hfl1, hrlen] at this
            exact this
          have hq : i / s < len := Nat.div_lt_of_lt_mul (by rw [Nat.mul_comm]; exact hil)
          have hr : i % s < s := Nat.mod_lt _ hs
          have e : i / s * s + i % s = i := by rw [Nat.mul_comm]; exact Nat.div_add_mod i s
          have hget : ((List.range len).map (fun i => (f i).1))[i / s]? = some (f (i / s)).1 := by rw [List.getElem?_map, List.getElem?_range hq]; rfl
          have h1 := hfl2 (i / s) _ hget (i % s) hr
          rw [e] at h1
          have h2 := (hfx (i / s) hq).2.1 (i % s) hr
          rw [hat, e] at h2
          rw [h2, ← h1]
          exact hi
end
end Go.Proofs.YtjnjnfhboafcgaaGreatDoor
namespace Go.Proofs.YtjnjnfhboafcgaaGreatDoor
open Go.ChangeShapes Go.WideShapes Go.ChangeAt Go.RowKit Go.WideMaps Go.WideElems

set_option maxRecDepth 100000
section
variable {H : Type} {enc : TypeId × Value → H}
theorem rs_map {α : Type} {f : α → List Value} {xs : List α} {rs : List (List Value)} (hl : rs.length = xs.length) (h : ∀ (i : Nat) (r : List Value) (x : α), rs[i]? = some r → xs[i]? = some x → r = f x) : rs.flatten = xs.flatMap f := by
  have e : rs = xs.map f := by
    apply List.ext_getElem?
    intro i
    rw [List.getElem?_map]
    by_cases hi : i < xs.length
    · have h1 : rs[i]? = some rs[i] := List.getElem?_eq_getElem (by omega)
      have h2 : xs[i]? = some xs[i] := List.getElem?_eq_getElem hi
      rw [h1, h2, h i _ _ h1 h2]
      rfl
    · rw [List.getElem?_eq_none (by omega), List.getElem?_eq_none (by omega)]
      rfl
  rw [e, List.flatMap_def]
theorem hn_cells {W : World} {n : Nat} {cs : List Value} {y : DataW H × List MemPlace} (h : DataW.trod enc Tryz.prog W 0 (fun _ => true) true n 58 cs = some y) : ∃ x : Cf.Hn, cs = hL x := by
  obtain ⟨xs, m, -, hy, hl, hlen, hf⟩ := DataW.trod_struct Tryz.underlying58 h
  have hl4 : cs.length = 4 := hl.trans (by kernel_rfl)
  have hx4 : xs.length = 4 := hlen
  match xs, hx4 with
  | [x0, x1, x2, x3], _ =>
  match cs, hl4 with
  | [k0, k1, k2, k3], _ =>
  obtain ⟨a, e0, -, -⟩ := DataW.trod_int Tryz.underlying3 (hf 0 _ rfl)
  obtain ⟨b, e1, -, -⟩ := DataW.trod_int Tryz.underlying3 (hf 1 _ rfl)
  obtain ⟨c, e2, -, -⟩ := DataW.trod_int Tryz.underlying3 (hf 2 _ rfl)
  obtain ⟨d, e3, -, -⟩ := DataW.trod_int Tryz.underlying3 (hf 3 _ rfl)
  have q0 : ([k0, k1, k2, k3].drop 0).take (Tryz.prog.cellsOf 3) = [.int .i64 a] := e0
  have q1 : ([k0, k1, k2, k3].drop 1).take (Tryz.prog.cellsOf 3) = [.int .i64 b] := e1
  have q2 : ([k0, k1, k2, k3].drop 2).take (Tryz.prog.cellsOf 3) = [.int .i64 c] := e2
  have q3 : ([k0, k1, k2, k3].drop 3).take (Tryz.prog.cellsOf 3) = [.int .i64 d] := e3
  rw [A.cellsInt] at q0 q1 q2 q3
  simp only [List.drop_zero, List.take_succ_cons, List.take_zero, List.cons.injEq, and_true, List.drop_succ_cons] at q0 q1 q2 q3
  subst q0 q1 q2 q3
  exact ⟨⟨a, b, c, d⟩, rfl⟩
theorem hs_cell {W : World} {n : Nat} {k : Value} {y : DataW H × List MemPlace} (h : DataW.trod enc Tryz.prog W 0 (fun _ => true) true n 40 [k] = some y) (hw : (y.1.weights Tryz.prog 40).all (· ≤ reachBytes) = true) :
    ∃ hs : List Cf.Hn, Kit.IsS 4 W k hs.length (hs.flatMap hL) ∧ hs.length * 32 ≤ 140737488351232 ∧ hs.length ≤ Rows.uptoBulk y.1 := by
  obtain ⟨xs, rs, h1, h2, h3, h4, h5⟩ := list_cell (s := 4) (by_ := 32) (tE := 58) (fun (_ : DataW H) cs (x : Cf.Hn) => cs = hL x) (fun _ _ x h => by rw [h]; rfl) (by decide) Tryz.underlying40 (by kernel_rfl) (by kernel_rfl) (by decide) (fun m cs z hz _ => hn_cells hz) h hw
  refine ⟨xs, ?_, h4, h5⟩
  rw [← rs_map h1 (fun i r x hr hx => by obtain ⟨d, hd, -⟩ := h2 i r x hr hx; exact hd)]
  exact h3
theorem A.cellsBs : Tryz.prog.cellsOf 22 = 1 := by kernel_rfl
theorem A.cellsHs : Tryz.prog.cellsOf 40 = 1 := by kernel_rfl
/-- What a machine's memory can hold as a member; how great it is. -/
structure GoodM (m : Cf.Mb) (B : Nat) : Prop where
  ac : L3.I6 m.ac
  hs : m.hs.length * 32 ≤ 140737488351232
  cb : m.code.length ≤ B
  hb : m.hs.length ≤ B
theorem mb_cells {W : World} {n : Nat} {cs : List Value} {y : DataW H × List MemPlace} (h : DataW.trod enc Tryz.prog W 0 (fun _ => true) true n 42 cs = some y) (hw : (y.1.weights Tryz.prog 42).all (· ≤ reachBytes) = true) :
    ∃ m : Cf.Mb, MbR W cs m ∧ GoodM m (Rows.uptoBulk y.1) := by
  obtain ⟨xs, m, -, hy, hl, hlen, hf⟩ := DataW.trod_struct Tryz.underlying42 h
  have hl7 : cs.length = 7 := hl.trans (by kernel_rfl)
  have hx7 : xs.length = 7 := hlen
  match xs, hx7 with
  | [x0, x1, x2, x3, x4, x5, x6], _ =>
  match cs, hl7 with
  | [k0, k1, k2, k3, k4, k5, k6], _ =>
  obtain ⟨a, e0, g0, w0⟩ := DataW.trod_int Tryz.underlying3 (hf 0 _ rfl)
  obtain ⟨b, e1, g1, -⟩ := DataW.trod_int Tryz.underlying3 (hf 1 _ rfl)
  obtain ⟨c, e2, g2, -⟩ := DataW.trod_int Tryz.underlying3 (hf 2 _ rfl)
  obtain ⟨d, e3, g3, -⟩ := DataW.trod_int Tryz.underlying3 (hf 3 _ rfl)
  obtain ⟨e, e4, g4, -⟩ := DataW.trod_int Tryz.underlying3 (hf 4 _ rfl)
  have q0 : ([k0, k1, k2, k3, k4, k5, k6].drop 0).take (Tryz.prog.cellsOf 3) = [.int .i64 a] := e0
  have q1 : ([k0, k1, k2, k3, k4, k5, k6].drop 1).take (Tryz.prog.cellsOf 3) = [.int .i64 b] := e1
  have q2 : ([k0, k1, k2, k3, k4, k5, k6].drop 2).take (Tryz.prog.cellsOf 3) = [.int .i64 c] := e2
  have q3 : ([k0, k1, k2, k3, k4, k5, k6].drop 3).take (Tryz.prog.cellsOf 3) = [.int .i64 d] := e3
  have q4 : ([k0, k1, k2, k3, k4, k5, k6].drop 4).take (Tryz.prog.cellsOf 3) = [.int .i64 e] := e4
  have f5 : DataW.trod enc Tryz.prog W 0 (fun _ => true) true m 22 (([k0, k1, k2, k3, k4, k5, k6].drop 5).take (Tryz.prog.cellsOf 22)) = some x5 := hf 5 _ rfl
  have f6 : DataW.trod enc Tryz.prog W 0 (fun _ => true) true m 40 (([k0, k1, k2, k3, k4, k5, k6].drop 6).take (Tryz.prog.cellsOf 40)) = some x6 := hf 6 _ rfl
  rw [A.cellsInt] at q0 q1 q2 q3 q4
  rw [A.cellsBs] at f5
  rw [A.cellsHs] at f6
  simp only [List.drop_zero, List.take_succ_cons, List.take_zero, List.cons.injEq, and_true, List.drop_succ_cons] at q0 q1 q2 q3 q4 f5 f6
  subst q0 q1 q2 q3 q4
  subst hy
  simp only [DataW.weights, Tryz.underlying42, List.map_cons, List.map_nil, DataW.weightsEach, List.all_append, Bool.and_eq_true] at hw
  obtain ⟨bs, hb1, hb2, hb3⟩ := bs_cell f5 (by simp_all)
  obtain ⟨hs, hh1, hh2, hh3⟩ := hs_cell f6 (by simp_all)
  refine ⟨⟨a, b, c, d, e, bs, hs⟩, ⟨k5, k6, rfl, hb1, hh1, by show bs.length ≤ _; omega⟩, ⟨i6_wf w0, hh2, ?_, ?_⟩⟩
  · show bs.length ≤ _
    simp only [Rows.uptoBulk, Rows.uptoBulkAll, List.map_cons, List.map_nil]
    omega
  · show hs.length ≤ _
    simp only [Rows.uptoBulk, Rows.uptoBulkAll, List.map_cons, List.map_nil]
    omega
end
end Go.Proofs.YtjnjnfhboafcgaaGreatDoor
namespace Go.Proofs.YtjnjnfhboafcgaaGreatDoor
open Go.ChangeShapes Go.WideShapes Go.ChangeAt Go.RowKit Go.WideMaps Go.WideElems

set_option maxRecDepth 100000
section
variable {H : Type} {enc : TypeId × Value → H}
/-- What a machine's memory can hold as a name. -/
def GoodN (x : Nm3) : Prop := x.2.1.size ≤ 140737488355328 ∧ x.2.2.size ≤ 140737488355328
theorem nd_cells {W : World} {n : Nat} {cs : List Value} {y : DataW H × List MemPlace} (h : DataW.trod enc Tryz.prog W 0 (fun _ => true) true n 44 cs = some y) (hw : (y.1.weights Tryz.prog 44).all (· ≤ reachBytes) = true) :
    ∃ x : Nm3, cs = nmL x ∧ GoodN x := by
  obtain ⟨xs, m, -, hy, hl, hlen, hf⟩ := DataW.trod_struct Tryz.underlying44 h
  have hl3 : cs.length = 3 := hl.trans (by kernel_rfl)
  have hx3 : xs.length = 3 := hlen
  match xs, hx3 with
  | [x0, x1, x2], _ =>
  match cs, hl3 with
  | [k0, k1, k2], _ =>
  obtain ⟨a, e0, g0, -⟩ := DataW.trod_string Tryz.underlying9 (hf 0 _ rfl)
  obtain ⟨b, e1, g1, -⟩ := DataW.trod_string Tryz.underlying9 (hf 1 _ rfl)
  obtain ⟨c, e2, g2, -⟩ := DataW.trod_string Tryz.underlying9 (hf 2 _ rfl)
  have q0 : ([k0, k1, k2].drop 0).take (Tryz.prog.cellsOf 9) = [.string a] := e0
  have q1 : ([k0, k1, k2].drop 1).take (Tryz.prog.cellsOf 9) = [.string b] := e1
  have q2 : ([k0, k1, k2].drop 2).take (Tryz.prog.cellsOf 9) = [.string c] := e2
  clear e0 e1 e2 hf
  rw [A.cellsStr] at q0 q1 q2
  simp only [List.drop_zero, List.take_succ_cons, List.take_zero, List.cons.injEq, and_true, List.drop_succ_cons] at q0 q1 q2
  subst q0 q1 q2
  subst g0 g1 g2 hy
  refine ⟨(a, b, c), rfl, ?_⟩
  simp [DataW.weights, Tryz.underlying44, DataW.weightsEach, reachBytes] at hw
  have h1 := hw.2.1
  have h2 := hw.2.2
  trace_state
  have h1 : b.size ≤ 140737488351232 := of_decide_eq_true h1
  have h2 : c.size ≤ 140737488351232 := of_decide_eq_true h2
  exact ⟨show b.size ≤ _ by omega, show c.size ≤ _ by omega⟩
theorem open_nds {W : World} {v : Value} {d : DataW H} {ps : List MemPlace} {base : Nat}
    (hok : Value.okWide Tryz.prog W .any base 53 v) (h : DataW.Trod enc Tryz.prog W 0 (fun _ => true) true 53 v d ps) (hw : (d.weights Tryz.prog 53).all (· ≤ reachBytes) = true) :
    ∃ l : List Nm3, Kit.IsS 3 W v l.length (l.flatMap nmL) ∧ (∀ x ∈ l, GoodN x) ∧ l.length * 48 ≤ 140737488351232 := by
  obtain ⟨a0, len, cap, rfl⟩ := okWide_slice Tryz.underlying53 hok
  obtain ⟨fuel, hf⟩ := h
  obtain ⟨xs, rs, h1, h2, h3, h4, h5⟩ := list_cell (s := 3) (by_ := 48) (tE := 44) (fun (_ : DataW H) cs (x : Nm3) => cs = nmL x ∧ GoodN x) (fun _ _ x h => by rw [h.1]; rfl) (by decide) Tryz.underlying53 (by kernel_rfl) (by kernel_rfl) (by decide) (fun m cs z hz hw => nd_cells hz hw) (y := (d, ps)) hf hw
  refine ⟨xs, ?_, fun c hc => ?_, h4⟩
  · rw [← rs_map h1 (fun i r x hr hx => by obtain ⟨d, hd, -⟩ := h2 i r x hr hx; exact hd.1)]
    exact h3
  · obtain ⟨i, hi⟩ := List.mem_iff_getElem?.1 hc
    have hlt : i < rs.length := by rw [h1]; exact (List.getElem?_eq_some_iff.1 hi).1
    obtain ⟨d, hd, -⟩ := h2 i _ c (List.getElem?_eq_getElem hlt) hi
    exact hd.2
theorem open_mb {W : World} {base : Nat} {v : Value} {d : DataW H} {p : List MemPlace} (hv : Value.okWide Tryz.prog W .any base 42 v) (h : DataW.Trod enc Tryz.prog W 0 (fun _ => true) true 42 v d p) (hw : (d.weights Tryz.prog 42).all (· ≤ reachBytes) = true) :
    ∃ (m : Cf.Mb) (cv hv : Value), v = mbV m cv hv ∧ L3.Bs W.heap.size W cv m.code ∧ Kit.IsS 4 W hv m.hs.length (m.hs.flatMap hL) ∧ m.code.length ≤ 140737488355328 ∧ GoodM m (Rows.uptoBulk d) := by
  obtain ⟨cs, rfl, hsz⟩ := okWide_struct Tryz.underlying42 hv
  obtain ⟨fuel, hf0⟩ := h
  obtain ⟨cs⟩ := cs
  obtain ⟨m, ⟨cv, hv9, rfl, h1, h2, h3⟩, h4⟩ := mb_cells hf0 hw
  exact ⟨m, cv, hv9, rfl, h1, h2, h3, h4⟩
end
end Go.Proofs.YtjnjnfhboafcgaaGreatDoor
namespace Go.Proofs.YtjnjnfhboafcgaaGreatDoor.lawGrows
open Go.ChangeShapes Go.WideShapes Go.ChangeAt Go.RowKit Go.WideMaps Go.WideElems
open Go.ChangeMaps (setBlock shut_map_nil open_string shut_string keptBut_setBlock frozen?_setBlock heap_setBlock_same)

set_option maxRecDepth 100000 in
theorem contract (H : Type) (enc : TypeId × Value → H) (W : World) (base : Nat) (args : Array Value) (ds gs : List (DataW H)) (before : List MemPlace)
    (hval : ∀ (j : Nat) t v, Tryz.f9.params[j]? = some t → args[j]? = some v → Value.okWide Tryz.prog W .any base t v)
    (hW : DataW.Whole enc Tryz.prog Tryz.f9.params.toList Rows.classfileGrowsSpec.vars false W args.toList ds gs before)
    (hsz : (DataW.weightsEach Tryz.prog (Tryz.f9.params.toList ++ (OpenSpec.ofChange Rows.classfileGrowsSpec).bare.plain.varTypes Tryz.prog) (ds ++ gs)).all (· ≤ reachBytes) = true)
    (hL : laidMetH Tryz.prog Rows.classfileGrowsRow.laid W) :
    Calls Tryz.prog 9 args W fun e W' => ∃ v, e = .returned v ∧ Rows.classfileGrowsSpec.post enc Tryz.prog Tryz.f9 false true false false W args v W' := by
  have hW' := hW
  obtain ⟨p, q, hA0, hV, rfl, hfz, hnd⟩ := hW
  have hA : DataW.TrodAll enc Tryz.prog W 0 (fun _ => true) true Tryz.f9.params.toList args.toList ds p := hA0
  rw [Tryz.params9] at hA hval hsz
  obtain ⟨v0, vs0, d0, ds0, p0, q0, hargs, rfl, rfl, h0, r0⟩ := trodAll_cons hA
  obtain ⟨v1, vs1, d1, ds1, p1, q1, rfl, rfl, rfl, h1, r1⟩ := trodAll_cons r0
  obtain ⟨v2, vs2, d2, ds2, p2, q2, rfl, rfl, rfl, h2, r2⟩ := trodAll_cons r1
  obtain ⟨v3, vs3, d3, ds3, p3, q3, rfl, rfl, rfl, h3, r3⟩ := trodAll_cons r2
  obtain ⟨rfl, rfl, rfl⟩ := trodAll_nil r3
  obtain rfl : args = #[v0, v1, v2, v3] := by cases args; simp_all
  obtain ⟨rfl, rfl⟩ := trodVars_none hV
  obtain ⟨x0, rfl, rfl, rfl, wx0⟩ := open_string Tryz.underlying9 (hval 0 9 v0 rfl rfl) h0
  obtain ⟨x1, wx1, wn1, wl1⟩ := open_nds (hval 1 53 v1 rfl rfl) h1 (weights_eachT (j := 1) (t := 53) (d := d1) rfl rfl hsz)
  obtain ⟨x2, wx2, wn2, wl2⟩ := open_nds (hval 2 53 v2 rfl rfl) h2 (weights_eachT (j := 2) (t := 53) (d := d2) rfl rfl hsz)
  obtain ⟨x3, c3, k3, rfl, wb3, wh3, wc3, wg3⟩ := open_mb (hval 3 42 v3 rfl rfl) h3 (weights_eachT (j := 3) (t := 42) (d := d3) rfl rfl hsz)
  refine (grows_law x0 _ _ x1 x2 x3 c3 k3 W (tabs1_of_laid hL) (tabs3_of_laid hL) wx1 wn1 wx2 wn2 wb3 wh3 wc3 (by have := wg3.hs; omega)).mono fun e W' ⟨he, hb⟩ => ?_
  subst he
  exact ⟨_, rfl, Kit.law_post rfl rfl Tryz.underlying4 (by kernel_rfl) (by decide +kernel) hW' rfl hb⟩

theorem reads (os : Os) {H : Type} (enc : TypeId × Value → H) : ∃ places, DataW.whole enc Tryz.prog ((laidWorld os).forCall (fun _ _ => 0) ⟨#[], #[.string ⟨#[]⟩, .slice none 0 0, .slice none 0 0, .agg #[.int .i64 0, .int .i64 0, .int .i64 0, .int .i64 0, .int .i64 0, .slice none 0 0, .slice none 0 0]], []⟩).memory Tryz.f9.params.toList Rows.classfileGrowsSpec.vars false (#[.string ⟨#[]⟩, .slice none 0 0, .slice none 0 0, .agg #[.int .i64 0, .int .i64 0, .int .i64 0, .int .i64 0, .int .i64 0, .slice none 0 0, .slice none 0 0]] : Array Value).toList 8 = some ([.lit (.string []), .nil, .nil, .agg [.lit (.int .i64 0), .lit (.int .i64 0), .lit (.int .i64 0), .lit (.int .i64 0), .lit (.int .i64 0), .nil, .nil]], [], places) :=
  ⟨[], by kernel_rfl⟩
theorem laid_met (os : Os) : laidMet Tryz.prog Rows.classfileGrowsRow.laid ((laidWorld os).forCall (fun _ _ => 0) ⟨#[], #[.string ⟨#[]⟩, .slice none 0 0, .slice none 0 0, .agg #[.int .i64 0, .int .i64 0, .int .i64 0, .int .i64 0, .int .i64 0, .slice none 0 0, .slice none 0 0]], []⟩).memory :=
  laidMet_of_run' 8 (by kernel_rfl) (by kernel_rfl)
set_option maxRecDepth 100000 in
theorem lifted (os : Os) (started : os.Started) (H : Type) (enc : TypeId × Value → H) (F : Stop.Interp) :
    ReturnsInHanded {} Tryz.checked os 9 .any ((OpenSpec.ofChange Rows.classfileGrowsSpec).preRow enc Tryz.prog Tryz.f9 Rows.classfileGrowsRow.domain false Rows.classfileGrowsRow.laid) (((OpenSpec.ofChange Rows.classfileGrowsSpec).at F).post enc Tryz.prog Tryz.f9 false true false false) := by
  obtain ⟨places, hx⟩ := reads os enc
  refine returnsInHanded_of_row (C := Tryz.checked) (s := (OpenSpec.ofChange Rows.classfileGrowsSpec)) own started (by kernel_rfl) Tryz.func9
    (witness_row_at (enc := enc) (C := Tryz.checked) false (laidWorld os) #[.string ⟨#[]⟩, .slice none 0 0, .slice none 0 0, .agg #[.int .i64 0, .int .i64 0, .int .i64 0, .int .i64 0, .int .i64 0, .slice none 0 0, .slice none 0 0]] rfl (by kernel_rfl) (by kernel_rfl) (by kernel_rfl)
      (OpenSpec.preRow_of_cond 8 hx (by kernel_rfl) (fun k hk => by cases hk) (by kernel_rfl) (laid_met os))) ?_
  intro W base args ds gs before hval hW _ _ hsz hL _ _
  exact contract H enc W base args ds gs before hval hW hsz hL
theorem said : Rows.ClassfileGrowsSaid :=
  OpenClaim.holds_of_cond 9 Tryz.f9 rfl rfl rfl rfl rfl rfl rfl ⟨rfl, rfl, rfl, rfl, rfl⟩ rfl rfl rfl rfl rfl (by kernel_rfl) Tryz.func9 (by kernel_rfl)
    (of_decide_eq_true (by kernel_rfl)) (by unfold Func.isWrapper; first | (rw [if_pos (by decide +kernel)]; kernel_rfl) | (rw [if_neg (by decide +kernel)]; exact ⟨rfl, rfl⟩))
    (fun os started H enc _ F => by rw [OpenClaim.pre_eq_preRow]; exact lifted os started H enc F)
theorem plain (f : FuncId) (fn : Func) (hf : Tryz.pinned.checked.prog.funcNamed "tabard/tabardlaw04.ClassfileGrows" = some f) (hfn : Tryz.pinned.checked.prog.funcs[f]? = some fn) :
    true = Tryz.pinned.checked.prog.looks [] ∧ ∀ (j : Nat) t, fn.params[j]? = some t → Tryz.pinned.checked.prog.wantsStandIn t = false := by
  obtain rfl : f = 9 := Option.some.inj ((show Tryz.prog.funcNamed "tabard/tabardlaw04.ClassfileGrows" = some 9 by kernel_rfl).symm.trans hf) |>.symm
  obtain rfl : fn = Tryz.f9 := (Option.some.inj (Tryz.func9.symm.trans hfn)).symm
  refine ⟨by kernel_rfl, fun j t ht => ?_⟩
  rw [Tryz.params9] at ht
  have hm := Array.mem_of_getElem? ht
  exact (show ∀ t ∈ #[9, 53, 53, 42], Tryz.prog.wantsStandIn t = false by decide +kernel) t hm
/-- THE CARD. -/
theorem card : Rows.ClassfileGrowsCardSaid :=
  Claim7.holds_tied_plain_at .later [] _ _ _ _ said (fun _ h => by cases h) (by kernel_rfl) (fun _ h => by cases h) classfileGrows_row_tie rfl ⟨rfl, rfl⟩ (by kernel_rfl) rfl plain (by kernel_rfl)
end Go.Proofs.YtjnjnfhboafcgaaGreatDoor.lawGrows
