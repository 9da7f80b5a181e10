/- Own texts for the claim, part 16. -/
import Derived.Test.YtjnjnfhboafcgaaGreatDoorZG15
namespace Go.Proofs.YtjnjnfhboafcgaaGreatDoor
open Go.RowKit

/-- What a class with one more member comes to. -/
def WtPost (mk : List L3.Cp.C → Cf.Mb → Cf.Cl) (c : Cf.Cl) (m : Cf.Mb) (a b : ByteArray) (w : World) (e : Ending) (w' : World) : Prop :=
  ∃ l1 i1 e1 l2 i2 e2, AdS c.pool 0 ⟨1, a, 0, 0, 0⟩ l1 i1 e1 ∧ AdS l1 e1 ⟨1, b, 0, 0, 0⟩ l2 i2 e2 ∧
    ((e2 ≠ 0 ∧ e = .returned (.tuple #[K0V, .int .i64 e2])) ∨
      (e2 = 0 ∧ ((Cf.ClIs (mk l2 { m with nm := (i1 : Nat), ds := (i2 : Nat) }) 0 ∧ ∃ vs', e = .returned (.tuple #[.agg vs', .int .i64 0]) ∧ OCl w' w.heap.size vs' (mk l2 { m with nm := (i1 : Nat), ds := (i2 : Nat) }) ∧ PoolSz l2) ∨
        ∃ er, er ≠ 0 ∧ Cf.ClIs (mk l2 { m with nm := (i1 : Nat), ds := (i2 : Nat) }) er ∧ e = .returned (.tuple #[K0V, .int .i64 er])))) ∧
    Below w.heap.size w w'
/-- Members whose rows another row of members, that has grown, is apart from. -/
theorem OMs.aside {w w' : World} {base base' : Nat} {v u : Value} {ms : List Cf.Mb} {n : Nat} {xs : List Value} (h : OMs w base v ms) (k : w.ownsRow base' 42 7 u n xs) (hne : ∀ k, v.ownBlock = some k → u.ownBlock ≠ some k) (hg : w.grownBy w' u.ownBlock) : OMs w' base v ms := by
  obtain ⟨rs, h1, h2⟩ := h
  refine ⟨rs, h1.mono fun _ _ x => x.apart k hg, ⟨h2.1, ?_⟩⟩
  rcases h2.2 with h3 | ⟨g, cap, cur, rfl, hge, hh, r⟩
  · exact .inl h3
  · exact .inr ⟨g, cap, cur, rfl, hge, (hg.block g (Array.getElem?_eq_some_iff.1 hh).1 (fun e => hne g rfl e.symm)).trans hh, r⟩
def mkM (c : Cf.Cl) (l : List L3.Cp.C) (m : Cf.Mb) : Cf.Cl := { c with pool := l, ms := c.ms ++ [m] }
def mkF (c : Cf.Cl) (l : List L3.Cp.C) (m : Cf.Mb) : Cf.Cl := { c with pool := l, fs := c.fs ++ [m] }
/-- Three boxes, made one behind the other. -/
theorem three {w : World} {c0 c1 c2 : Array Value} {T0 T1 T2 : TypeId} {W : World} (h : W = ((w.alloc (.cells c0 T0)).alloc (.cells c1 T1)).alloc (.cells c2 T2)) :
    L3.BX W w.heap.size c0 T0 ∧ L3.BX W (w.heap.size + 1) c1 T1 ∧ L3.BX W (w.heap.size + 1 + 1) c2 T2 ∧ W.heap.size = w.heap.size + 3 ∧ Below w.heap.size w W := by
  subst h
  have b0 := BX.al (BX.al (L3.BX.new w c0 T0) (.cells c1 T1)) (.cells c2 T2)
  have b1 := BX.al (L3.BX.new (w.alloc (.cells c0 T0)) c1 T1) (.cells c2 T2)
  have b2 := L3.BX.new ((w.alloc (.cells c0 T0)).alloc (.cells c1 T1)) c2 T2
  simp only [World.size_alloc] at b1 b2
  exact ⟨b0, b1, b2, by simp only [World.size_alloc], (by repeat' first | with_reducible exact Below.refl _ _ | with_reducible assumption | with_reducible refine belows_drewN ?_ _ | with_reducible refine Below.drew ?_ | with_reducible refine Below.setCell ?_ ?_ _ | with_reducible refine Below.alloc ?_ ?_ _ | omega | (simp; done) | (simp; omega))⟩
set_option maxRecDepth 100000 in
set_option maxHeartbeats 1000000 in
theorem withMethod_any (c : Cf.Cl) (vs : Array Value) (m : Cf.Mb) (cv hv : Value) (a b : ByteArray) (w : World) (hk : Ck w c) (h : ClR w vs c) (hs : Cf.Szc c) (hz : PoolSz c.pool) (hB : L3.Bs w.heap.size w cv m.code) (hH : Kit.IsS 4 w hv m.hs.length (m.hs.flatMap hL))
    (hmc : m.code.length ≤ 140737488355328) (hmh : m.hs.length * 32 ≤ 140737488355328) (ha : a.size ≤ 140737488355328) (hb : b.size ≤ 140737488355328) (hms : (c.ms.length + 1) * 88 ≤ 140737488355328) :
    Calls Tryz.prog 28 #[.agg vs, .string a, .string b, mbV m cv hv] w (WtPost (mkM c) c m a b w) := by
  obtain ⟨i0, hi, hz0, hz1, hz2⟩ := info_parts infoM
  have HK := hid hk
  have HNd := hid (fun W (k : Below w.heap.size w W) => named_any c vs m cv hv a b W (hk.t3.below k hk.t3.size) (h.below k (Nat.le_refl _)) hs hz ((hB.below k (Nat.le_refl _)).mono k.size) (hH.below k (Nat.le_refl _)) hmc hmh ha hb)
  obtain ⟨pv, fv, mv, rfl, hp, hf, hm⟩ := h
  obtain ⟨pa, pc, rfl⟩ := hp.len
  obtain ⟨fa, fc, rfl⟩ := hf.len
  obtain ⟨ma2, mc, rfl⟩ := hm.len
  obtain ⟨xa, xc, rfl⟩ := hB.len
  obtain ⟨ya, yc, rfl⟩ := hH.len
  have HSz := hid hs
  obtain ⟨mi, ma, P, ac, th, su, fs, ms⟩ := c
  obtain ⟨mac, mnm, mds, mst, mlc, co, hs9⟩ := m
  unfold mbV at HNd ⊢
  dsimp only at HNd HSz hms ⊢
  have HMs := hid hms
  clear hk hp hf hm hB hH hmc hmh ha hb hs hz hms
  go_enter Tryz.func28, Tryz.ntmps28
  go_wp2_with fail
  obtain ⟨W1, hW1⟩ : ∃ W1, W1 = (((w.alloc (.cells #[.int .i64 mi, .int .i64 ma, .slice pa P.length pc, .int .i64 ac, .int .i64 th, .int .i64 su, .slice fa fs.length fc, .slice ma2 ms.length mc] 26)).alloc (.cells #[.int .i64 mac, .int .i64 mnm, .int .i64 mds, .int .i64 mst, .int .i64 mlc, .slice xa co.length xc, .slice ya hs9.length yc] 42)).alloc (.cells #[.int .i64 0, .int .i64 0, .slice none 0 0, .int .i64 0, .int .i64 0, .int .i64 0, .slice none 0 0, .slice none 0 0] 26)) := ⟨_, rfl⟩
  obtain ⟨bC, bM, bR, hzW, B1⟩ := three hW1
  rw [← hW1]
  have HB1 := hid B1
  have BC1 := hid bC
  have BM1 := hid bM
  have BR1 := hid bR
  clear hW1 bC bM bR B1
  go_wp2_with (first | (go_at_call 65; refine (HNd.out W1 HB1.out).mono ?_; rintro e w2 hN; unfold NdPost at hN; rcases hN with ⟨l1, i1, e1, l2, i2, e2, hS1, hS2, (⟨hz, rfl⟩ | ⟨rfl, vs9, cv9, hv9, rfl, oC, oM, hPz, hAp⟩), hb2⟩; all_goals (have HS1 := hid hS1; have HS2 := hid hS2; have HB2 := hid hb2; have bC := BC1.out.below hb2 BC1.out.sz; have bM := BM1.out.below hb2 BM1.out.sz; have bR := BR1.out.below hb2 BR1.out.sz; have c0 := bC.cell 0; have fc0 := bC.frozen 0; have c1 := bC.cell 1; have fc1 := bC.frozen 1; have c2 := bC.cell 2; have fc2 := bC.frozen 2; have c3 := bC.cell 3; have fc3 := bC.frozen 3; have c4 := bC.cell 4; have fc4 := bC.frozen 4; have c5 := bC.cell 5; have fc5 := bC.frozen 5; have c6 := bC.cell 6; have fc6 := bC.frozen 6; have c7 := bC.cell 7; have fc7 := bC.frozen 7; simp at c0 c1 c2 c3 c4 c5 c6 c7; have m0 := bM.cell 0; have fm0 := bM.frozen 0; have m1 := bM.cell 1; have fm1 := bM.frozen 1; have m2 := bM.cell 2; have fm2 := bM.frozen 2; have m3 := bM.cell 3; have fm3 := bM.frozen 3; have m4 := bM.cell 4; have fm4 := bM.frozen 4; have m5 := bM.cell 5; have fm5 := bM.frozen 5; have m6 := bM.cell 6; have fm6 := bM.frozen 6; simp at m0 m1 m2 m3 m4 m5 m6; have r0 := bR.cell 0; have fr0 := bR.frozen 0; have r1 := bR.cell 1; have fr1 := bR.frozen 1; have r2 := bR.cell 2; have fr2 := bR.frozen 2; have r3 := bR.cell 3; have fr3 := bR.frozen 3; have r4 := bR.cell 4; have fr4 := bR.frozen 4; have r5 := bR.cell 5; have fr5 := bR.frozen 5; have r6 := bR.cell 6; have fr6 := bR.frozen 6; have r7 := bR.cell 7; have fr7 := bR.frozen 7; simp at r0 r1 r2 r3 r4 r5 r6 r7; clear bC bM bR hb2 hS1 hS2); all_goals (first | (have hdd : (e2 != 0) = true := (by simpa using hz); have HZ := hid hz; clear hz; unfold K0V mbV Cf.M0; dsimp only) | (have OC2 := hid oC; have OM2 := hid oM; have HPz := hid hPz; have HAp := hid hAp; obtain ⟨pv9, fv9, mv9, rfl, o1, o2, o3⟩ := oC; obtain ⟨pa9, pc9, rfl⟩ := L3.own_form o1; obtain ⟨fa9, fc9, rfl⟩ := OMs.form o2; obtain ⟨ma9, mc9, rfl⟩ := OMs.form o3; obtain ⟨cv3, hv3, he3, oc, oh, -, -⟩ := oM; obtain ⟨rfl, rfl⟩ : cv9 = cv3 ∧ hv9 = hv3 := (by simpa [mL] using he3); obtain ⟨xa2, xc2, rfl⟩ := L3.own_form oc; obtain ⟨ya2, yc2, rfl⟩ := L3.own_form oh; unfold mbV; dsimp only at OC2 OM2 ⊢; clear o1 o2 o3 oc oh he3 hPz hAp))) | (at_builtin; have _g := OC2; (fail_if_success (have _g := HO4)); have g8 := grown8 w2 (w.heap.size) (.int .i64 mi) (.int .i64 ma) (.slice pa9 l2.length pc9) (.int .i64 ac) (.int .i64 th) (.int .i64 su) (.slice fa9 fs.length fc9) (.slice ma9 ms.length mc9); have g7 := grown7 ((((((((w2.setCell ⟨w.heap.size, 0, none⟩ (.int .i64 mi)).setCell ⟨w.heap.size, 1, none⟩ (.int .i64 ma)).setCell ⟨w.heap.size, 2, none⟩ (.slice pa9 l2.length pc9)).setCell ⟨w.heap.size, 3, none⟩ (.int .i64 ac)).setCell ⟨w.heap.size, 4, none⟩ (.int .i64 th)).setCell ⟨w.heap.size, 5, none⟩ (.int .i64 su)).setCell ⟨w.heap.size, 6, none⟩ (.slice fa9 fs.length fc9)).setCell ⟨w.heap.size, 7, none⟩ (.slice ma9 ms.length mc9)) (w.heap.size + 1) (.int .i64 mac) (.int .i64 (i1 : Nat)) (.int .i64 (i2 : Nat)) (.int .i64 mst) (.int .i64 mlc) (.slice xa2 co.length xc2) (.slice ya2 hs9.length yc2); have bC := (put8 (BC1.out.below HB2.out BC1.out.sz) rfl (.int .i64 mi) (.int .i64 ma) (.slice pa9 l2.length pc9) (.int .i64 ac) (.int .i64 th) (.int .i64 su) (.slice fa9 fs.length fc9) (.slice ma9 ms.length mc9)).grown g7 (fun e => by (have := Option.some.inj e; omega)); have bM := put7 ((BM1.out.below HB2.out BM1.out.sz).grown g8 (fun e => by (have := Option.some.inj e; omega))) rfl (.int .i64 mac) (.int .i64 (i1 : Nat)) (.int .i64 (i2 : Nat)) (.int .i64 mst) (.int .i64 mlc) (.slice xa2 co.length xc2) (.slice ya2 hs9.length yc2); have bR := ((BR1.out.below HB2.out BR1.out.sz).grown g8 (fun e => by (have := Option.some.inj e; omega))).grown g7 (fun e => by (have := Option.some.inj e; omega)); have oC := (OC2.out.grown g8 (by omega)).grown g7 (by omega); have oM := (OM2.out.grown g8 (by omega)).grown g7 (by omega); have B3 := nwB (nwB (belows HB1.out HB2.out HB1.out.size) g8 ⟨Nat.le_refl _, by (have := HB1.out.size; have := HB2.out.size; omega)⟩) g7 ⟨by omega, by (have := HB1.out.size; have := HB2.out.size; have := g8.size; omega)⟩; have hz3 : W1.heap.size ≤ (((((((((((((((w2.setCell ⟨w.heap.size, 0, none⟩ (.int .i64 mi)).setCell ⟨w.heap.size, 1, none⟩ (.int .i64 ma)).setCell ⟨w.heap.size, 2, none⟩ (.slice pa9 l2.length pc9)).setCell ⟨w.heap.size, 3, none⟩ (.int .i64 ac)).setCell ⟨w.heap.size, 4, none⟩ (.int .i64 th)).setCell ⟨w.heap.size, 5, none⟩ (.int .i64 su)).setCell ⟨w.heap.size, 6, none⟩ (.slice fa9 fs.length fc9)).setCell ⟨w.heap.size, 7, none⟩ (.slice ma9 ms.length mc9)).setCell ⟨w.heap.size + 1, 0, none⟩ (.int .i64 mac)).setCell ⟨w.heap.size + 1, 1, none⟩ (.int .i64 (i1 : Nat))).setCell ⟨w.heap.size + 1, 2, none⟩ (.int .i64 (i2 : Nat))).setCell ⟨w.heap.size + 1, 3, none⟩ (.int .i64 mst)).setCell ⟨w.heap.size + 1, 4, none⟩ (.int .i64 mlc)).setCell ⟨w.heap.size + 1, 5, none⟩ (.slice xa2 co.length xc2)).setCell ⟨w.heap.size + 1, 6, none⟩ (.slice ya2 hs9.length yc2)).heap.size := (by (have := HB2.out.size; have := g8.size; have := g7.size; omega)); obtain ⟨W3, hW3⟩ : ∃ W, W = (((((((((((((((w2.setCell ⟨w.heap.size, 0, none⟩ (.int .i64 mi)).setCell ⟨w.heap.size, 1, none⟩ (.int .i64 ma)).setCell ⟨w.heap.size, 2, none⟩ (.slice pa9 l2.length pc9)).setCell ⟨w.heap.size, 3, none⟩ (.int .i64 ac)).setCell ⟨w.heap.size, 4, none⟩ (.int .i64 th)).setCell ⟨w.heap.size, 5, none⟩ (.int .i64 su)).setCell ⟨w.heap.size, 6, none⟩ (.slice fa9 fs.length fc9)).setCell ⟨w.heap.size, 7, none⟩ (.slice ma9 ms.length mc9)).setCell ⟨w.heap.size + 1, 0, none⟩ (.int .i64 mac)).setCell ⟨w.heap.size + 1, 1, none⟩ (.int .i64 (i1 : Nat))).setCell ⟨w.heap.size + 1, 2, none⟩ (.int .i64 (i2 : Nat))).setCell ⟨w.heap.size + 1, 3, none⟩ (.int .i64 mst)).setCell ⟨w.heap.size + 1, 4, none⟩ (.int .i64 mlc)).setCell ⟨w.heap.size + 1, 5, none⟩ (.slice xa2 co.length xc2)).setCell ⟨w.heap.size + 1, 6, none⟩ (.slice ya2 hs9.length yc2)) := ⟨_, rfl⟩; have hsz3 : w2.heap.size = W3.heap.size := (by rw [hW3]; simp only [World.size_setCell]); rw [← hW3] at bC bM bR oC oM B3 hz3 ⊢; rw [hsz3]; obtain ⟨pvx, fvx, mvx, hvs, o1, o2, ⟨rs, hrs, o3⟩⟩ := oC; dsimp only at hrs o1 o2 o3 hvs; have hvs2 : pvx = .slice pa9 l2.length pc9 ∧ fvx = .slice fa9 fs.length fc9 ∧ mvx = .slice ma9 ms.length mc9 := (by (simp at hvs; exact ⟨hvs.1.symm, hvs.2.1.symm, hvs.2.2.symm⟩)); obtain ⟨rfl, rfl, rfl⟩ := hvs2; clear c0 c1 c2 c3 c4 c5 c6 c7 m0 m1 m2 m3 m4 m5 m6 r0 r1 r2 r3 r4 r5 r6 r7 fc0 fc1 fc2 fc3 fc4 fc5 fc6 fc7 fm0 fm1 fm2 fm3 fm4 fm5 fm6 fr0 fr1 fr2 fr3 fr4 fr5 fr6 fr7 hW3 g8 g7 hvs; refine wpList_append_own_at _ rfl (.tmp 25) (.tmp 27) 24 rfl W1.heap.size 42 i0 _ 7 88 Tryz.underlying24 hi hz0 hz1 hz2 rfl (by decide) _ _ _ rfl (o3.alloc _) ⟨W3.heap.size, 0, none⟩ 1 1 (mL ⟨mac, (i1 : Nat), (i2 : Nat), mst, mlc, co, hs9⟩ (.slice xa2 co.length xc2) (.slice ya2 hs9.length yc2)) rfl rfl (news_m W3 ⟨mac, (i1 : Nat), (i2 : Nat), mst, mlc, co, hs9⟩ _ _) (ones_m ⟨mac, (i1 : Nat), (i2 : Nat), mst, mlc, co, hs9⟩ rfl rfl) (by (have := HMs.out; unfold maxLen; omega)) (by (have := HMs.out; omega)) (by simp only [World.size_alloc]; omega) ?_; intro v4 W4 ho4 hg4 _ hk4; have ba : Below W3.heap.size W3 (W3.alloc (.cells #[.int .i64 mac, .int .i64 (i1 : Nat), .int .i64 (i2 : Nat), .int .i64 mst, .int .i64 mlc, .slice xa2 co.length xc2, .slice ya2 hs9.length yc2] 42)) := (Below.refl _ _).alloc (Nat.le_refl _) _; have hrs := hrs.mono fun _ _ k => k.below ba (Nat.le_refl _); have oM := oM.below ba (Nat.le_refl _); have hge : ∀ k, (Value.slice ma9 ms.length mc9).ownBlock = some k → W1.heap.size ≤ k := Kit.own_base o3; have bC := (BX.al bC _).grown hg4 (fun e => by (have := hge _ e; omega)); have bM := (BX.al bM _).grown hg4 (fun e => by (have := hge _ e; omega)); have bR := (BX.al bR _).grown hg4 (fun e => by (have := hge _ e; omega)); have o1 := owns_apart (World.ownsRow.alloc o1 _) (o3.alloc _) (by decide) hg4; have o2 := OMs.aside (o2.below ba (Nat.le_refl _)) (o3.alloc _) (fun k hk e9 => HAp.out k hk e9) hg4; have o4 := OMs.push hrs (o3.alloc _) oM hg4 ho4; have B4 := (B3.alloc B3.size _).grown hg4 (by (have := B3.size; rw [World.size_alloc]; omega)) (fun k hk => by (have := hge k hk; omega));  have hz4 : W1.heap.size ≤ W4.heap.size := (by (have q9 := hg4.size; rw [World.size_alloc] at q9; omega)); have HB4 := hid B4; have BC4 := hid bC; have BR4 := hid bR; have c0 := bC.cell 0; have fc0 := bC.frozen 0; have c1 := bC.cell 1; have fc1 := bC.frozen 1; have c2 := bC.cell 2; have fc2 := bC.frozen 2; have c3 := bC.cell 3; have fc3 := bC.frozen 3; have c4 := bC.cell 4; have fc4 := bC.frozen 4; have c5 := bC.cell 5; have fc5 := bC.frozen 5; have c6 := bC.cell 6; have fc6 := bC.frozen 6; have c7 := bC.cell 7; have fc7 := bC.frozen 7; simp at c0 c1 c2 c3 c4 c5 c6 c7; obtain ⟨ma4, mc4, rfl⟩ := OMs.form o4; have e7 : (ms ++ [(⟨mac, (i1 : Nat), (i2 : Nat), mst, mlc, co, hs9⟩ : Cf.Mb)]).length = ms.length + 1 := (by simp); rw [e7] at o4; have HO4 := hid (And.intro o1 (And.intro o2 o4)); clear o1 o2 o3 o4 hrs oM bC bM bR B3 B4 ba hge ho4 hg4 hk4) | (go_at_call 35; go_loud (have g5 := L3.set_grown W4 w.heap.size 7 (.slice ma4 (ms.length + 1) mc4); have o1 := Kit.owns_grown HO4.out.1 g5 (by omega); have o2 := HO4.out.2.1.grown g5 (by omega); have o4 := HO4.out.2.2.grown g5 (by omega); have bR := BR4.out.grown g5 (fun e => by (have := Option.some.inj e; omega)); have B5 := nwB HB4.out g5 ⟨Nat.le_refl _, HB4.out.size⟩; have oC5z : W1.heap.size ≤ (W4.setCell ⟨w.heap.size, 7, none⟩ (.slice ma4 (ms.length + 1) mc4)).heap.size := (by rw [World.size_setCell]; exact hz4); obtain ⟨W5, hW5⟩ : ∃ W, W = W4.setCell ⟨w.heap.size, 7, none⟩ (.slice ma4 (ms.length + 1) mc4) := ⟨_, rfl⟩; rw [← hW5] at o1 o2 o4 bR B5 oC5z ⊢; have oC : OCl W5 W1.heap.size #[.int .i64 mi, .int .i64 ma, .slice pa9 l2.length pc9, .int .i64 ac, .int .i64 th, .int .i64 su, .slice fa9 fs.length fc9, .slice ma4 (ms.length + 1) mc4] ⟨mi, ma, l2, ac, th, su, fs, ms ++ [⟨mac, (i1 : Nat), (i2 : Nat), mst, mlc, co, hs9⟩]⟩ := ⟨_, _, _, rfl, o1, o2, o4⟩; have hcl := oC.reads ⟨by (have := HPz.out.1; show l2.length ≤ _; omega), by (have q9 : fs.length * 88 ≤ 140737488355328 := HSz.out.2.1; show fs.length ≤ _; omega), by (have := HMs.out; show (ms ++ [_]).length ≤ _; rw [List.length_append]; show ms.length + 1 ≤ _; omega)⟩; have hck : Ck W5 ⟨mi, ma, l2, ac, th, su, fs, ms ++ [⟨mac, (i1 : Nat), (i2 : Nat), mst, mlc, co, hs9⟩]⟩ := ⟨(HK.out.below B5).t1, (HK.out.below B5).t3, HPz.out.1, HPz.out.2⟩; refine (checked_any _ _ W5 hck hcl).mono ?_; rintro e w6 ⟨h6 | ⟨er, hz, hR, rfl⟩, hb6⟩; all_goals (try (obtain ⟨hR, rfl⟩ := h6)); all_goals (have HR6 := hid hR; have HC6 := hid (oC.below hb6 (Nat.le_refl _)); have B6 := belows B5 hb6 B5.size; have hz6 : W1.heap.size ≤ w6.heap.size := (by (have := hb6.size; have := oC5z; omega)); have HB6 := hid B6; have bR6 := bR.below hb6 bR.sz; have r0 := bR6.cell 0; have fr0 := bR6.frozen 0; have r1 := bR6.cell 1; have fr1 := bR6.frozen 1; have r2 := bR6.cell 2; have fr2 := bR6.frozen 2; have r3 := bR6.cell 3; have fr3 := bR6.frozen 3; have r4 := bR6.cell 4; have fr4 := bR6.frozen 4; have r5 := bR6.cell 5; have fr5 := bR6.frozen 5; have r6 := bR6.cell 6; have fr6 := bR6.frozen 6; have r7 := bR6.cell 7; have fr7 := bR6.frozen 7; simp at r0 r1 r2 r3 r4 r5 r6 r7; clear bR6 bR B5 B6 hcl hck o1 o2 o4 oC hW5 g5 hb6 hR; (try (have HZ := hid hz; clear hz; unfold K0V))))))
  · have B2 : Below w.heap.size w w2 := belows HB1.out HB2.out HB1.out.size
    exact bodyPost_ret (v := .tuple #[.agg #[.int .i64 0, .int .i64 0, .slice none 0 0, .int .i64 0, .int .i64 0, .int .i64 0, .slice none 0 0, .slice none 0 0], .int .i64 e2]) (by simp [results, Tryz.results28, go_sem, r0, r1, r2, r3, r4, r5, r6, r7]) rfl (by unfold WtPost K0V; exact ⟨l1, i1, e1, l2, i2, e2, HS1.out, HS2.out, .inl ⟨HZ.out, rfl⟩, (by repeat' first | with_reducible exact Below.refl _ _ | with_reducible assumption | with_reducible refine belows_drewN ?_ _ | with_reducible refine Below.drew ?_ | with_reducible refine Below.setCell ?_ ?_ _ | with_reducible refine Below.alloc ?_ ?_ _ | omega | (simp; done) | (simp; omega))⟩)
  · have g8 := grown8 w6 (w.heap.size + 1 + 1) (.int .i64 mi) (.int .i64 ma) (.slice pa9 l2.length pc9) (.int .i64 ac) (.int .i64 th) (.int .i64 su) (.slice fa9 fs.length fc9) (.slice ma4 (ms.length + 1) mc4)
    have oC := (HC6.out.grown g8 (by omega)).mono (base' := w.heap.size) (by omega)
    have B6 := HB6.out
    exact bodyPost_ret (v := .tuple #[.agg #[.int .i64 mi, .int .i64 ma, .slice pa9 l2.length pc9, .int .i64 ac, .int .i64 th, .int .i64 su, .slice fa9 fs.length fc9, .slice ma4 (ms.length + 1) mc4], .int .i64 0]) (by simp [results, Tryz.results28, go_sem, r0, r1, r2, r3, r4, r5, r6, r7]) rfl (by unfold WtPost; exact ⟨l1, i1, e1, l2, i2, 0, HS1.out, HS2.out, .inr ⟨rfl, .inl ⟨HR6.out, _, rfl, oC, HPz.out⟩⟩, (by repeat' first | with_reducible exact Below.refl _ _ | with_reducible assumption | with_reducible refine belows_drewN ?_ _ | with_reducible refine Below.drew ?_ | with_reducible refine Below.setCell ?_ ?_ _ | with_reducible refine Below.alloc ?_ ?_ _ | omega | (simp; done) | (simp; omega))⟩)
  · have B6 := HB6.out
    exact bodyPost_ret (v := .tuple #[.agg #[.int .i64 0, .int .i64 0, .slice none 0 0, .int .i64 0, .int .i64 0, .int .i64 0, .slice none 0 0, .slice none 0 0], .int .i64 er]) (by simp [results, Tryz.results28, go_sem, r0, r1, r2, r3, r4, r5, r6, r7]) rfl (by unfold WtPost K0V; exact ⟨l1, i1, e1, l2, i2, 0, HS1.out, HS2.out, .inr ⟨rfl, .inr ⟨er, HZ.out, HR6.out, rfl⟩⟩, (by repeat' first | with_reducible exact Below.refl _ _ | with_reducible assumption | with_reducible refine belows_drewN ?_ _ | with_reducible refine Below.drew ?_ | with_reducible refine Below.setCell ?_ ?_ _ | with_reducible refine Below.alloc ?_ ?_ _ | omega | (simp; done) | (simp; omega))⟩)
end Go.Proofs.YtjnjnfhboafcgaaGreatDoor
namespace Go.Proofs.YtjnjnfhboafcgaaGreatDoor
open Go.RowKit

/-- Two boxes, made one behind the other. -/
theorem two {w : World} {c0 c1 : Array Value} {T0 T1 : TypeId} {W : World} (h : W = (w.alloc (.cells c0 T0)).alloc (.cells c1 T1)) :
    L3.BX W w.heap.size c0 T0 ∧ L3.BX W (w.heap.size + 1) c1 T1 ∧ W.heap.size = w.heap.size + 2 ∧ Below w.heap.size w W := by
  subst h
  have b0 := BX.al (L3.BX.new w c0 T0) (.cells c1 T1)
  have b1 := L3.BX.new (w.alloc (.cells c0 T0)) c1 T1
  simp only [World.size_alloc] at b1
  exact ⟨b0, b1, by simp only [World.size_alloc], (by repeat' first | with_reducible exact Below.refl _ _ | with_reducible assumption | with_reducible refine belows_drewN ?_ _ | with_reducible refine Below.drew ?_ | with_reducible refine Below.setCell ?_ ?_ _ | with_reducible refine Below.alloc ?_ ?_ _ | omega | (simp; done) | (simp; omega))⟩
set_option maxRecDepth 100000 in
set_option maxHeartbeats 1000000 in
theorem withField_at (c : Cf.Cl) (vs : Array Value) (mac : Int) (co : List UInt8) (hs9 : List Cf.Hn) (a b : ByteArray) (w : World) (hk : Ck w c) (h : ClR w vs c) (hs : Cf.Szc c) (hz : PoolSz c.pool) (hco : co = []) (hhs : hs9 = [])
    (ha : a.size ≤ 140737488355328) (hb : b.size ≤ 140737488355328) (hms : (c.fs.length + 1) * 88 ≤ 140737488355328) :
    Calls Tryz.prog 26 #[.agg vs, .int .i64 mac, .string a, .string b] w (WtPost (mkF c) c ⟨mac, 0, 0, 0, 0, co, hs9⟩ a b w) := by
  obtain ⟨i0, hi, hz0, hz1, hz2i⟩ := info_parts infoM
  have HK := hid hk
  have HNd := hid (fun W (k : Below w.heap.size w W) => named_any c vs ⟨mac, 0, 0, 0, 0, co, hs9⟩ (.slice none 0 0) (.slice none 0 0) a b W (hk.t3.below k hk.t3.size) (h.below k (Nat.le_refl _)) hs hz (by subst hco; exact ⟨by simp, .inl ⟨rfl, none, 0, rfl⟩⟩) (by subst hhs; exact ⟨rfl, by simp, .inl ⟨rfl, none, 0, rfl⟩⟩) (by subst hco; simp) (by subst hhs; simp) ha hb)
  obtain ⟨pv, fv, mv, rfl, hp, hf, hm⟩ := h
  obtain ⟨pa, pc, rfl⟩ := hp.len
  obtain ⟨fa, fc, rfl⟩ := hf.len
  obtain ⟨ma2, mc, rfl⟩ := hm.len
  have HSz := hid hs
  obtain ⟨mi, ma, P, ac, th, su, fs, ms⟩ := c
  unfold mbV at HNd
  dsimp only at HNd HSz hms ⊢
  have HMs := hid hms
  clear hk hp hf hm ha hb hs hz hms hco hhs
  go_enter Tryz.func26, Tryz.ntmps26
  go_wp2_with fail
  obtain ⟨W1, hW1⟩ : ∃ W1, W1 = ((w.alloc (.cells #[.int .i64 mi, .int .i64 ma, .slice pa P.length pc, .int .i64 ac, .int .i64 th, .int .i64 su, .slice fa fs.length fc, .slice ma2 ms.length mc] 26)).alloc (.cells #[.int .i64 0, .int .i64 0, .slice none 0 0, .int .i64 0, .int .i64 0, .int .i64 0, .slice none 0 0, .slice none 0 0] 26)) := ⟨_, rfl⟩
  obtain ⟨bC, bR, hzW, B1⟩ := two hW1
  rw [← hW1]
  have HB1 := hid B1
  have BC1 := hid bC
  have BR1 := hid bR
  clear hW1 bC bR B1
  go_wp2_with (first | (go_at_call 65; (fail_if_success (have _g := HS1)); go_loud (refine (HNd.out W1 HB1.out).mono ?_; rintro e w2 hN; unfold NdPost at hN; rcases hN with ⟨l1, i1, e1, l2, i2, e2, hS1, hS2, (⟨hz, rfl⟩ | ⟨rfl, vs9, cv9, hv9, rfl, oC, oM, hPz, hAp⟩), hb2⟩; all_goals (have HS1 := hid hS1; have HS2 := hid hS2; have HB2 := hid hb2; have bC := BC1.out.below hb2 BC1.out.sz; have bR := BR1.out.below hb2 BR1.out.sz; have hz2 : W1.heap.size ≤ w2.heap.size := hb2.size; have hzc2 : w.heap.size < w2.heap.size := (by omega); have hzr2 : w.heap.size + 1 < w2.heap.size := (by omega); have c0 := bC.cell 0; have fc0 := bC.frozen 0; have c1 := bC.cell 1; have fc1 := bC.frozen 1; have c2 := bC.cell 2; have fc2 := bC.frozen 2; have c3 := bC.cell 3; have fc3 := bC.frozen 3; have c4 := bC.cell 4; have fc4 := bC.frozen 4; have c5 := bC.cell 5; have fc5 := bC.frozen 5; have c6 := bC.cell 6; have fc6 := bC.frozen 6; have c7 := bC.cell 7; have fc7 := bC.frozen 7; simp at c0 c1 c2 c3 c4 c5 c6 c7; have r0 := bR.cell 0; have fr0 := bR.frozen 0; have r1 := bR.cell 1; have fr1 := bR.frozen 1; have r2 := bR.cell 2; have fr2 := bR.frozen 2; have r3 := bR.cell 3; have fr3 := bR.frozen 3; have r4 := bR.cell 4; have fr4 := bR.frozen 4; have r5 := bR.cell 5; have fr5 := bR.frozen 5; have r6 := bR.cell 6; have fr6 := bR.frozen 6; have r7 := bR.cell 7; have fr7 := bR.frozen 7; simp at r0 r1 r2 r3 r4 r5 r6 r7; clear bC bR hb2 hS1 hS2); all_goals (first | (have hdd : (e2 != 0) = true := (by simpa using hz); have HZ := hid hz; clear hz; unfold K0V mbV Cf.M0; dsimp only) | (have OC2 := hid oC; have OM2 := hid oM; have HPz := hid hPz; have HAp := hid hAp; obtain ⟨pv9, fv9, mv9, rfl, o1, o2, o3⟩ := oC; obtain ⟨pa9, pc9, rfl⟩ := L3.own_form o1; obtain ⟨fa9, fc9, rfl⟩ := OMs.form o2; obtain ⟨ma9, mc9, rfl⟩ := OMs.form o3; obtain ⟨cv3, hv3, he3, oc, oh, -, -⟩ := oM; obtain ⟨rfl, rfl⟩ : cv9 = cv3 ∧ hv9 = hv3 := (by simpa [mL] using he3); obtain ⟨xa2, xc2, rfl⟩ := L3.own_form oc; obtain ⟨ya2, yc2, rfl⟩ := L3.own_form oh; unfold mbV; dsimp only at OC2 OM2 ⊢; clear o1 o2 o3 oc oh he3 hPz hAp)))) | (at_builtin; have _g := OC2; (fail_if_success (have _g := HO4)); go_loud (have g8 := grown8 w2 (w.heap.size) (.int .i64 mi) (.int .i64 ma) (.slice pa9 l2.length pc9) (.int .i64 ac) (.int .i64 th) (.int .i64 su) (.slice fa9 fs.length fc9) (.slice ma9 ms.length mc9); have hal : Below ((((((((w2.setCell ⟨w.heap.size, 0, none⟩ (.int .i64 mi)).setCell ⟨w.heap.size, 1, none⟩ (.int .i64 ma)).setCell ⟨w.heap.size, 2, none⟩ (.slice pa9 l2.length pc9)).setCell ⟨w.heap.size, 3, none⟩ (.int .i64 ac)).setCell ⟨w.heap.size, 4, none⟩ (.int .i64 th)).setCell ⟨w.heap.size, 5, none⟩ (.int .i64 su)).setCell ⟨w.heap.size, 6, none⟩ (.slice fa9 fs.length fc9)).setCell ⟨w.heap.size, 7, none⟩ (.slice ma9 ms.length mc9)).heap.size ((((((((w2.setCell ⟨w.heap.size, 0, none⟩ (.int .i64 mi)).setCell ⟨w.heap.size, 1, none⟩ (.int .i64 ma)).setCell ⟨w.heap.size, 2, none⟩ (.slice pa9 l2.length pc9)).setCell ⟨w.heap.size, 3, none⟩ (.int .i64 ac)).setCell ⟨w.heap.size, 4, none⟩ (.int .i64 th)).setCell ⟨w.heap.size, 5, none⟩ (.int .i64 su)).setCell ⟨w.heap.size, 6, none⟩ (.slice fa9 fs.length fc9)).setCell ⟨w.heap.size, 7, none⟩ (.slice ma9 ms.length mc9)) (((((((((w2.setCell ⟨w.heap.size, 0, none⟩ (.int .i64 mi)).setCell ⟨w.heap.size, 1, none⟩ (.int .i64 ma)).setCell ⟨w.heap.size, 2, none⟩ (.slice pa9 l2.length pc9)).setCell ⟨w.heap.size, 3, none⟩ (.int .i64 ac)).setCell ⟨w.heap.size, 4, none⟩ (.int .i64 th)).setCell ⟨w.heap.size, 5, none⟩ (.int .i64 su)).setCell ⟨w.heap.size, 6, none⟩ (.slice fa9 fs.length fc9)).setCell ⟨w.heap.size, 7, none⟩ (.slice ma9 ms.length mc9)).alloc (.cells #[.int .i64 mac, .int .i64 (i1 : Nat), .int .i64 (i2 : Nat), .int .i64 0, .int .i64 0, .slice xa2 co.length xc2, .slice ya2 hs9.length yc2] 42)) := (Below.refl _ _).alloc (Nat.le_refl _) _; have bC := BX.al (put8 (BC1.out.below HB2.out BC1.out.sz) rfl (.int .i64 mi) (.int .i64 ma) (.slice pa9 l2.length pc9) (.int .i64 ac) (.int .i64 th) (.int .i64 su) (.slice fa9 fs.length fc9) (.slice ma9 ms.length mc9)) (.cells #[.int .i64 mac, .int .i64 (i1 : Nat), .int .i64 (i2 : Nat), .int .i64 0, .int .i64 0, .slice xa2 co.length xc2, .slice ya2 hs9.length yc2] 42); have bR := BX.al ((BR1.out.below HB2.out BR1.out.sz).grown g8 (fun e => by (have := Option.some.inj e; omega))) (.cells #[.int .i64 mac, .int .i64 (i1 : Nat), .int .i64 (i2 : Nat), .int .i64 0, .int .i64 0, .slice xa2 co.length xc2, .slice ya2 hs9.length yc2] 42); have oC := (OC2.out.grown g8 (by omega)).below hal (Nat.le_refl _); have oM := (OM2.out.grown g8 (by omega)).below hal (Nat.le_refl _); have B2a := nwB (belows HB1.out HB2.out HB1.out.size) g8 ⟨Nat.le_refl _, by omega⟩; have B3 := B2a.alloc B2a.size (.cells #[.int .i64 mac, .int .i64 (i1 : Nat), .int .i64 (i2 : Nat), .int .i64 0, .int .i64 0, .slice xa2 co.length xc2, .slice ya2 hs9.length yc2] 42); have hz3 : W1.heap.size ≤ (((((((((w2.setCell ⟨w.heap.size, 0, none⟩ (.int .i64 mi)).setCell ⟨w.heap.size, 1, none⟩ (.int .i64 ma)).setCell ⟨w.heap.size, 2, none⟩ (.slice pa9 l2.length pc9)).setCell ⟨w.heap.size, 3, none⟩ (.int .i64 ac)).setCell ⟨w.heap.size, 4, none⟩ (.int .i64 th)).setCell ⟨w.heap.size, 5, none⟩ (.int .i64 su)).setCell ⟨w.heap.size, 6, none⟩ (.slice fa9 fs.length fc9)).setCell ⟨w.heap.size, 7, none⟩ (.slice ma9 ms.length mc9)).alloc (.cells #[.int .i64 mac, .int .i64 (i1 : Nat), .int .i64 (i2 : Nat), .int .i64 0, .int .i64 0, .slice xa2 co.length xc2, .slice ya2 hs9.length yc2] 42)).heap.size := (by (have q1 := g8.size; rw [World.size_alloc]; omega)); obtain ⟨W3, hW3⟩ : ∃ W, W = (((((((((w2.setCell ⟨w.heap.size, 0, none⟩ (.int .i64 mi)).setCell ⟨w.heap.size, 1, none⟩ (.int .i64 ma)).setCell ⟨w.heap.size, 2, none⟩ (.slice pa9 l2.length pc9)).setCell ⟨w.heap.size, 3, none⟩ (.int .i64 ac)).setCell ⟨w.heap.size, 4, none⟩ (.int .i64 th)).setCell ⟨w.heap.size, 5, none⟩ (.int .i64 su)).setCell ⟨w.heap.size, 6, none⟩ (.slice fa9 fs.length fc9)).setCell ⟨w.heap.size, 7, none⟩ (.slice ma9 ms.length mc9)).alloc (.cells #[.int .i64 mac, .int .i64 (i1 : Nat), .int .i64 (i2 : Nat), .int .i64 0, .int .i64 0, .slice xa2 co.length xc2, .slice ya2 hs9.length yc2] 42)) := ⟨_, rfl⟩; have hsz3 : w2.heap.size + 1 = W3.heap.size := (by rw [hW3]; simp only [World.size_setCell, World.size_alloc]); rw [← hW3] at bC bR oC oM B3 hz3 ⊢; rw [hsz3]; obtain ⟨pvx, fvx, mvx, hvs, o1, ⟨rs, hrs, o3⟩, o2⟩ := oC; dsimp only at hrs o1 o2 o3 hvs; have hvs2 : pvx = .slice pa9 l2.length pc9 ∧ fvx = .slice fa9 fs.length fc9 ∧ mvx = .slice ma9 ms.length mc9 := (by (simp at hvs; exact ⟨hvs.1.symm, hvs.2.1.symm, hvs.2.2.symm⟩)); obtain ⟨rfl, rfl, rfl⟩ := hvs2; clear c0 c1 c2 c3 c4 c5 c6 c7 r0 r1 r2 r3 r4 r5 r6 r7 fc0 fc1 fc2 fc3 fc4 fc5 fc6 fc7 fr0 fr1 fr2 fr3 fr4 fr5 fr6 fr7 hW3 g8 hvs hal; refine wpList_append_own_at _ rfl (.tmp 27) (.tmp 29) 24 rfl W1.heap.size 42 i0 _ 7 88 Tryz.underlying24 hi hz0 hz1 hz2i rfl (by decide) _ _ _ rfl (o3.alloc _) ⟨W3.heap.size, 0, none⟩ 1 1 (mL ⟨mac, (i1 : Nat), (i2 : Nat), 0, 0, co, hs9⟩ (.slice xa2 co.length xc2) (.slice ya2 hs9.length yc2)) rfl rfl (news_m W3 ⟨mac, (i1 : Nat), (i2 : Nat), 0, 0, co, hs9⟩ _ _) (ones_m ⟨mac, (i1 : Nat), (i2 : Nat), 0, 0, co, hs9⟩ rfl rfl) (by (have := HMs.out; unfold maxLen; omega)) (by (have := HMs.out; omega)) (by simp only [World.size_alloc]; omega) ?_; intro v4 W4 ho4 hg4 _ hk4; have ba : Below W3.heap.size W3 (W3.alloc (.cells #[.int .i64 mac, .int .i64 (i1 : Nat), .int .i64 (i2 : Nat), .int .i64 0, .int .i64 0, .slice xa2 co.length xc2, .slice ya2 hs9.length yc2] 42)) := (Below.refl _ _).alloc (Nat.le_refl _) _; have hrs := hrs.mono fun _ _ k => k.below ba (Nat.le_refl _); have oM := oM.below ba (Nat.le_refl _); have hge : ∀ k, (Value.slice fa9 fs.length fc9).ownBlock = some k → W1.heap.size ≤ k := Kit.own_base o3; have bC := (BX.al bC _).grown hg4 (fun e => by (have := hge _ e; omega)); have bR := (BX.al bR _).grown hg4 (fun e => by (have := hge _ e; omega)); have o1 := owns_apart (World.ownsRow.alloc o1 _) (o3.alloc _) (by decide) hg4; have o2 := OMs.aside (o2.below ba (Nat.le_refl _)) (o3.alloc _) (fun k hk e9 => HAp.out k e9 hk) hg4; have o4 := OMs.push hrs (o3.alloc _) oM hg4 ho4; have B4 := (B3.alloc B3.size _).grown hg4 (by (have := B3.size; rw [World.size_alloc]; omega)) (fun k hk => by (have := hge k hk; omega)); have hz4 : W1.heap.size ≤ W4.heap.size := (by (have q9 := hg4.size; rw [World.size_alloc] at q9; omega)); have HB4 := hid B4; have BC4 := hid bC; have BR4 := hid bR; have c0 := bC.cell 0; have fc0 := bC.frozen 0; have c1 := bC.cell 1; have fc1 := bC.frozen 1; have c2 := bC.cell 2; have fc2 := bC.frozen 2; have c3 := bC.cell 3; have fc3 := bC.frozen 3; have c4 := bC.cell 4; have fc4 := bC.frozen 4; have c5 := bC.cell 5; have fc5 := bC.frozen 5; have c6 := bC.cell 6; have fc6 := bC.frozen 6; have c7 := bC.cell 7; have fc7 := bC.frozen 7; simp at c0 c1 c2 c3 c4 c5 c6 c7; obtain ⟨ma4, mc4, rfl⟩ := OMs.form o4; have e7 : (fs ++ [(⟨mac, (i1 : Nat), (i2 : Nat), 0, 0, co, hs9⟩ : Cf.Mb)]).length = fs.length + 1 := (by simp); rw [e7] at o4; have HO4 := hid (And.intro o1 (And.intro o2 o4)); clear o1 o2 o3 o4 hrs oM bC bR B3 B4 ba hge ho4 hg4 hk4 B2a)) | (go_at_call 35; go_loud (have g5 := L3.set_grown W4 w.heap.size 6 (.slice ma4 (fs.length + 1) mc4); have o1 := Kit.owns_grown HO4.out.1 g5 (by omega); have o2 := HO4.out.2.1.grown g5 (by omega); have o4 := HO4.out.2.2.grown g5 (by omega); have bR := BR4.out.grown g5 (fun e => by (have := Option.some.inj e; omega)); have B5 := nwB HB4.out g5 ⟨Nat.le_refl _, HB4.out.size⟩; have oC5z : W1.heap.size ≤ (W4.setCell ⟨w.heap.size, 6, none⟩ (.slice ma4 (fs.length + 1) mc4)).heap.size := (by rw [World.size_setCell]; exact hz4); obtain ⟨W5, hW5⟩ : ∃ W, W = (W4.setCell ⟨w.heap.size, 6, none⟩ (.slice ma4 (fs.length + 1) mc4)) := ⟨_, rfl⟩; rw [← hW5] at o1 o2 o4 bR B5 oC5z ⊢; have oC : OCl W5 W1.heap.size #[.int .i64 mi, .int .i64 ma, .slice pa9 l2.length pc9, .int .i64 ac, .int .i64 th, .int .i64 su, .slice ma4 (fs.length + 1) mc4, .slice ma9 ms.length mc9] ⟨mi, ma, l2, ac, th, su, fs ++ [⟨mac, (i1 : Nat), (i2 : Nat), 0, 0, co, hs9⟩], ms⟩ := ⟨_, _, _, rfl, o1, o4, o2⟩; have hcl := oC.reads ⟨by (have := HPz.out.1; show l2.length ≤ _; omega), by (have := HMs.out; show (fs ++ [_]).length ≤ _; rw [List.length_append]; show fs.length + 1 ≤ _; omega), by (have q9 : ms.length * 88 ≤ 140737488355328 := HSz.out.2.2.1; show ms.length ≤ _; omega)⟩; have hck : Ck W5 ⟨mi, ma, l2, ac, th, su, fs ++ [⟨mac, (i1 : Nat), (i2 : Nat), 0, 0, co, hs9⟩], ms⟩ := ⟨(HK.out.below B5).t1, (HK.out.below B5).t3, HPz.out.1, HPz.out.2⟩; refine (checked_any _ _ W5 hck hcl).mono ?_; rintro e w6 ⟨h6 | ⟨er, hz, hR, rfl⟩, hb6⟩; all_goals (try (obtain ⟨hR, rfl⟩ := h6)); all_goals (have HR6 := hid hR; have HC6 := hid (oC.below hb6 (Nat.le_refl _)); have B6 := belows B5 hb6 B5.size; have hz6 : W1.heap.size ≤ w6.heap.size := (by (have := hb6.size; have := oC5z; omega)); have HB6 := hid B6; have bR6 := bR.below hb6 bR.sz; have r0 := bR6.cell 0; have fr0 := bR6.frozen 0; have r1 := bR6.cell 1; have fr1 := bR6.frozen 1; have r2 := bR6.cell 2; have fr2 := bR6.frozen 2; have r3 := bR6.cell 3; have fr3 := bR6.frozen 3; have r4 := bR6.cell 4; have fr4 := bR6.frozen 4; have r5 := bR6.cell 5; have fr5 := bR6.frozen 5; have r6 := bR6.cell 6; have fr6 := bR6.frozen 6; have r7 := bR6.cell 7; have fr7 := bR6.frozen 7; simp at r0 r1 r2 r3 r4 r5 r6 r7; clear bR6 bR B5 B6 hcl hck o1 o2 o4 oC hW5 g5 hb6 hR; (try (have HZ := hid hz; clear hz; unfold K0V))))))
  · have B2 : Below w.heap.size w w2 := belows HB1.out HB2.out HB1.out.size
    exact bodyPost_ret (v := .tuple #[.agg #[.int .i64 0, .int .i64 0, .slice none 0 0, .int .i64 0, .int .i64 0, .int .i64 0, .slice none 0 0, .slice none 0 0], .int .i64 e2]) (by simp [results, Tryz.results26, go_sem, r0, r1, r2, r3, r4, r5, r6, r7, World.cell?_alloc_past, hzr2]) rfl (by unfold WtPost K0V; exact ⟨l1, i1, e1, l2, i2, e2, HS1.out, HS2.out, .inl ⟨HZ.out, rfl⟩, (by repeat' first | with_reducible exact Below.refl _ _ | with_reducible assumption | with_reducible refine belows_drewN ?_ _ | with_reducible refine Below.drew ?_ | with_reducible refine Below.setCell ?_ ?_ _ | with_reducible refine Below.alloc ?_ ?_ _ | omega | (simp; done) | (simp; omega))⟩)
  · have g8 := grown8 w6 (w.heap.size + 1) (.int .i64 mi) (.int .i64 ma) (.slice pa9 l2.length pc9) (.int .i64 ac) (.int .i64 th) (.int .i64 su) (.slice ma4 (fs.length + 1) mc4) (.slice ma9 ms.length mc9)
    have oC := (HC6.out.grown g8 (by omega)).mono (base' := w.heap.size) (by omega)
    have B6 := HB6.out
    exact bodyPost_ret (v := .tuple #[.agg #[.int .i64 mi, .int .i64 ma, .slice pa9 l2.length pc9, .int .i64 ac, .int .i64 th, .int .i64 su, .slice ma4 (fs.length + 1) mc4, .slice ma9 ms.length mc9], .int .i64 0]) (by simp [results, Tryz.results26, go_sem, r0, r1, r2, r3, r4, r5, r6, r7]) rfl (by unfold WtPost; exact ⟨l1, i1, e1, l2, i2, 0, HS1.out, HS2.out, .inr ⟨rfl, .inl ⟨HR6.out, _, rfl, oC, HPz.out⟩⟩, (by repeat' first | with_reducible exact Below.refl _ _ | with_reducible assumption | with_reducible refine belows_drewN ?_ _ | with_reducible refine Below.drew ?_ | with_reducible refine Below.setCell ?_ ?_ _ | with_reducible refine Below.alloc ?_ ?_ _ | omega | (simp; done) | (simp; omega))⟩)
  · have B6 := HB6.out
    exact bodyPost_ret (v := .tuple #[.agg #[.int .i64 0, .int .i64 0, .slice none 0 0, .int .i64 0, .int .i64 0, .int .i64 0, .slice none 0 0, .slice none 0 0], .int .i64 er]) (by simp [results, Tryz.results26, go_sem, r0, r1, r2, r3, r4, r5, r6, r7]) rfl (by unfold WtPost K0V; exact ⟨l1, i1, e1, l2, i2, 0, HS1.out, HS2.out, .inr ⟨rfl, .inr ⟨er, HZ.out, HR6.out, rfl⟩⟩, (by repeat' first | with_reducible exact Below.refl _ _ | with_reducible assumption | with_reducible refine belows_drewN ?_ _ | with_reducible refine Below.drew ?_ | with_reducible refine Below.setCell ?_ ?_ _ | with_reducible refine Below.alloc ?_ ?_ _ | omega | (simp; done) | (simp; omega))⟩)
theorem withField_any (c : Cf.Cl) (vs : Array Value) (mac : Int) (a b : ByteArray) (w : World) (hk : Ck w c) (h : ClR w vs c) (hs : Cf.Szc c) (hz : PoolSz c.pool) (ha : a.size ≤ 140737488355328) (hb : b.size ≤ 140737488355328) (hms : (c.fs.length + 1) * 88 ≤ 140737488355328) :
    Calls Tryz.prog 26 #[.agg vs, .int .i64 mac, .string a, .string b] w (WtPost (mkF c) c ⟨mac, 0, 0, 0, 0, [], []⟩ a b w) := withField_at c vs mac [] [] a b w hk h hs hz rfl rfl ha hb hms
end Go.Proofs.YtjnjnfhboafcgaaGreatDoor
namespace Go.Proofs.YtjnjnfhboafcgaaGreatDoor
open Go.RowKit

namespace Cf
theorem en_at {P : List L3.Cp.C} {i : Nat} {c : L3.Cp.C} {tag : Int} (h : P[i]? = some c) (ht : c.t = tag) : L3.enA P (i : Int) tag = some c := by
  have := (List.getElem?_eq_some_iff.1 h).1
  unfold L3.enA
  rw [if_pos (by omega), Int.toNat_natCast, h]
  dsimp only
  rw [if_pos ht]
theorem en_app {P t : List L3.Cp.C} {i tag : Int} {c : L3.Cp.C} (h : L3.enA P i tag = some c) : L3.enA (P ++ t) i tag = some c := by
  rcases L3.enA_cases P i tag with ⟨_, h'⟩ | ⟨_, _, h'⟩ | ⟨k, d, rfl, hk, hd, ⟨ht, h'⟩ | ⟨_, h'⟩⟩ <;> rw [h'] at h
  · cases h
  · cases h
  · cases h; exact en_at (by rw [List.getElem?_append_left hk]; exact hd) ht
  · cases h
theorem tx_app {P t : List L3.Cp.C} {i : Int} (h : (L3.txO P i).2 = 0) : L3.txO (P ++ t) i = L3.txO P i := by
  unfold L3.txO at h ⊢
  cases e : L3.enA P i 1 with
  | none => rw [e] at h; exact absurd h (by show ¬ ((33 : Int) = 0); decide)
  | some c => rw [en_app e]
theorem tx_at {P : List L3.Cp.C} {i : Nat} {a : ByteArray} (h : P[i]? = some ⟨1, a, 0, 0, 0⟩) : L3.txO P i = (a, 0) := by
  unfold L3.txO
  rw [en_at h rfl]
  rfl
theorem cl_at {P : List L3.Cp.C} {i j : Nat} {a : ByteArray} (h : P[i]? = some ⟨7, ⟨#[]⟩, 0, (j : Nat), 0⟩) (k : P[j]? = some ⟨1, a, 0, 0, 0⟩) : L3.clO P i = (a, 0) := by
  unfold L3.clO
  rw [en_at h rfl]
  exact tx_at k
theorem mb_app {P t : List L3.Cp.C} {m : Mb} (h : (mbO P m).2 = 0) : mbO (P ++ t) m = mbO P m := by
  by_cases h1 : (L3.txO P m.nm).2 = 0
  · by_cases h2 : (L3.txO P m.ds).2 = 0
    · unfold mbO
      rw [tx_app h1, tx_app h2]
    · unfold mbO at h
      rw [if_neg (by simpa using h1), if_pos h2] at h
      exact absurd h h2
  · unfold mbO at h
    rw [if_pos h1] at h
    exact absurd h h1
theorem mb_at {P : List L3.Cp.C} {m : Mb} {i j : Nat} {a b : ByteArray} (h : P[i]? = some ⟨1, a, 0, 0, 0⟩) (k : P[j]? = some ⟨1, b, 0, 0, 0⟩) : mbO P { m with nm := (i : Nat), ds := (j : Nat) } = ((a, b), 0) := by
  unfold mbO
  dsimp only
  rw [tx_at h, tx_at k, if_neg (by simp), if_neg (by simp)]
theorem fst0 {R : Nat → Int → Prop} {n : Nat} (h : FstR R n 0) : ∀ k, k < n → R k 0 := by
  rcases h with ⟨-, h⟩ | ⟨h, -⟩
  · exact h
  · exact absurd rfl h
/-- A class that may be has few members. -/
theorem cl_len {c : Cl} (h : ClIs c 0) : c.fs.length ≤ 256 ∧ c.ms.length ≤ 256 := by
  have h0 : HdIs c 0 := fst0 h 0 (by omega)
  unfold HdIs at h0
  split at h0
  · cases h0
  · obtain ⟨pk, -, h0⟩ := h0
    split at h0
    · rename_i h1; exact absurd h0.symm h1
    · split at h0
      · cases h0
      · split at h0
        · rename_i h1; exact absurd h0.symm h1
        · split at h0
          · rename_i h1; exact absurd h0.symm h1
          · split at h0
            · cases h0
            · rename_i h1; omega
/-- Members that have names. -/
def Had (P : List L3.Cp.C) (l : List Mb) (hs : List (ByteArray × ByteArray)) : Prop := l.length = hs.length ∧ ∀ (k : Nat) (m : Mb), l[k]? = some m → ∃ n, hs[k]? = some n ∧ mbO P m = (n, 0)
theorem Had.nil (P : List L3.Cp.C) : Had P [] [] := ⟨rfl, fun k m h => by simp at h⟩
theorem Had.app {P t : List L3.Cp.C} {l : List Mb} {hs : List (ByteArray × ByteArray)} (h : Had P l hs) : Had (P ++ t) l hs :=
  ⟨h.1, fun k m hk => by obtain ⟨n, h1, h2⟩ := h.2 k m hk; exact ⟨n, h1, by rw [mb_app (by rw [h2]), h2]⟩⟩
theorem Had.snoc {P : List L3.Cp.C} {l : List Mb} {hs : List (ByteArray × ByteArray)} {m : Mb} {n : ByteArray × ByteArray} (h : Had P l hs) (hn : mbO P m = (n, 0)) : Had P (l ++ [m]) (hs ++ [n]) := by
  refine ⟨by simp [h.1], fun k x hk => ?_⟩
  by_cases hlt : k < l.length
  · rw [List.getElem?_append_left hlt] at hk
    obtain ⟨n', h1, h2⟩ := h.2 k x hk
    exact ⟨n', by rw [List.getElem?_append_left (by have := h.1; omega)]; exact h1, h2⟩
  · rw [List.getElem?_append_right (by omega)] at hk
    have e : k - l.length = 0 := by
      have := (List.getElem?_eq_some_iff.1 hk).1
      simp at this
      omega
    rw [e] at hk
    obtain rfl : m = x := by simpa using hk
    exact ⟨n, by rw [List.getElem?_append_right (by have := h.1; omega), show k - hs.length = 0 by have := h.1; omega]; rfl, hn⟩
end Cf
theorem ads0 {l m : List L3.Cp.C} {er : Int} {c : L3.Cp.C} {i : Nat} (h : AdS l er c m i 0) : er = 0 ∧ 1 ≤ i ∧ m[i]? = some c ∧ (∃ t, m = l ++ t) ∧ L3.CkIs m 0 := by
  rcases h with ⟨h1, -, -, h2⟩ | ⟨h1, h2⟩
  · exact absurd h2.symm h1
  · obtain ⟨a, b, d, e, -⟩ := L3.ad_good h2
    exact ⟨h1, a, b, d, e⟩
theorem up_at {l t : List L3.Cp.C} {i : Nat} {c : L3.Cp.C} (h : l[i]? = some c) : (l ++ t)[i]? = some c := by
  rw [List.getElem?_append_left (List.getElem?_eq_some_iff.1 h).1]
  exact h
/-- A class that New makes with no error may be. -/
theorem nw_ok {a b : ByteArray} {c : Cf.Cl} (h : NwIs a b c 0) : Cf.ClIs c 0 ∧ c.fs = [] ∧ c.ms = [] := by
  unfold NwIs at h
  split at h
  · rename_i h1; exact absurd h.2.symm h1
  · rename_i ha
    split at h
    · rename_i h1; exact absurd h.2.symm h1
    · rename_i hb
      obtain ⟨m0, i0, e0, m1, i1, e1, m2, i2, e2, m3, i3, e3, m4, i4, e4, a0, a1, a2, a3, a4, h⟩ := h
      split at h
      · rename_i h1; exact absurd h.2.symm h1
      · rename_i h1
        obtain ⟨rfl, -⟩ := h
        obtain rfl : e4 = 0 := Decidable.not_not.1 h1
        obtain ⟨rfl, -, k4, ⟨t4, rfl⟩, ck⟩ := ads0 a4
        obtain ⟨rfl, -, k3, ⟨t3, rfl⟩, -⟩ := ads0 a3
        obtain ⟨rfl, -, k2, ⟨t2, rfl⟩, -⟩ := ads0 a2
        obtain ⟨rfl, -, k1, ⟨t1, rfl⟩, -⟩ := ads0 a1
        have q1 := up_at (t := t4) (up_at (t := t3) (up_at (t := t2) k1))
        have q2 := up_at (t := t4) (up_at (t := t3) k2)
        have q3 := up_at (t := t4) k3
        refine ⟨Cf.FstR.all fun k hk => ?_, rfl, rfl⟩
        match k, hk with
        | 0, _ =>
          show Cf.HdIs _ 0
          unfold Cf.HdIs
          dsimp only
          rw [if_neg (by decide +kernel)]
          refine ⟨0, ck, ?_⟩
          have c1 := Cf.cl_at q2 q1
          have c2 := Cf.cl_at k4 q3
          have d1 : Cf.claE (m0 ++ t1 ++ t2 ++ t3 ++ t4) (i2 : Nat) = 0 := by
            unfold Cf.claE; rw [c1, if_neg (by simp)]; exact Decidable.not_not.1 ha
          have d2 : Cf.claE (m0 ++ t1 ++ t2 ++ t3 ++ t4) (i4 : Nat) = 0 := by
            unfold Cf.claE; rw [c2, if_neg (by simp)]; exact Decidable.not_not.1 hb
          rw [if_neg (by decide), if_neg (by decide +kernel), d1, d2, if_neg (by decide), if_neg (by decide), if_neg (by simp)]
        | 1, _ => exact Cf.FstR.all fun k hk => by cases hk
        | 2, _ => exact Cf.FstR.all fun k hk => by cases hk
        | 3, _ => exact ⟨_, _, Cf.cix_fi _, by simp⟩
/-- What is known of the class that grows. -/
structure Grw (c : Cf.Cl) (hf hm : List (ByteArray × ByteArray)) (B : Nat) : Prop where
  ok : Cf.ClIs c 0
  sz : PoolSz c.pool
  f : Cf.Had c.pool c.fs hf
  m : Cf.Had c.pool c.ms hm
  hs : ∀ x ∈ c.fs, x.hs.length * 32 ≤ B
  hm : ∀ x ∈ c.ms, x.hs.length * 32 ≤ B
theorem Grw.szc {c : Cf.Cl} {hf hm : List (ByteArray × ByteArray)} (h : Grw c hf hm 140737488355328) : Cf.Szc c :=
  ⟨h.sz.1, by have := (Cf.cl_len h.ok).1; omega, by have := (Cf.cl_len h.ok).2; omega, h.hs, h.hm⟩
theorem Grw.sz2 {c : Cf.Cl} {hf hm : List (ByteArray × ByteArray)} {B : Nat} (h : Grw c hf hm B) : Cf.Sz c :=
  ⟨by have := h.sz.1; omega, by have := (Cf.cl_len h.ok).1; omega, by have := (Cf.cl_len h.ok).2; omega⟩
theorem Grw.len {c : Cf.Cl} {hf hm : List (ByteArray × ByteArray)} {B : Nat} (h : Grw c hf hm B) : c.fs.length = hf.length ∧ c.ms.length = hm.length ∧ c.fs.length ≤ 256 ∧ c.ms.length ≤ 256 := ⟨h.f.1, h.m.1, (Cf.cl_len h.ok).1, (Cf.cl_len h.ok).2⟩
theorem grw_new {a b : ByteArray} {c : Cf.Cl} (h : NwIs a b c 0) (hz : PoolSz c.pool) (B : Nat) : Grw c [] [] B := by
  obtain ⟨h1, h2, h3⟩ := nw_ok h
  exact ⟨h1, hz, by rw [h2]; exact Cf.Had.nil _, by rw [h3]; exact Cf.Had.nil _, by rw [h2]; simp, by rw [h3]; simp⟩
theorem ads2 {P l1 l2 : List L3.Cp.C} {a b : ByteArray} {i1 i2 : Nat} {e1 : Int} (h1 : AdS P 0 ⟨1, a, 0, 0, 0⟩ l1 i1 e1) (h2 : AdS l1 e1 ⟨1, b, 0, 0, 0⟩ l2 i2 0) : (∃ t, l2 = P ++ t) ∧ ∀ m : Cf.Mb, Cf.mbO l2 { m with nm := (i1 : Nat), ds := (i2 : Nat) } = ((a, b), 0) := by
  obtain ⟨rfl, -, k2, ⟨t2, rfl⟩, -⟩ := ads0 h2
  obtain ⟨-, -, k1, ⟨t1, rfl⟩, -⟩ := ads0 h1
  exact ⟨⟨t1 ++ t2, List.append_assoc _ _ _⟩, fun m => Cf.mb_at (up_at k1) k2⟩
theorem grw_f {c : Cf.Cl} {hf hm : List (ByteArray × ByteArray)} {B : Nat} {l1 l2 : List L3.Cp.C} {a b : ByteArray} {i1 i2 : Nat} {e1 : Int} {m : Cf.Mb} (h : Grw c hf hm B) (h1 : AdS c.pool 0 ⟨1, a, 0, 0, 0⟩ l1 i1 e1) (h2 : AdS l1 e1 ⟨1, b, 0, 0, 0⟩ l2 i2 0)
    (hc : Cf.ClIs (mkF c l2 { m with nm := (i1 : Nat), ds := (i2 : Nat) }) 0) (hz : PoolSz l2) (hB : m.hs.length * 32 ≤ B) : Grw (mkF c l2 { m with nm := (i1 : Nat), ds := (i2 : Nat) }) (hf ++ [(a, b)]) hm B := by
  obtain ⟨⟨t, rfl⟩, hn⟩ := ads2 h1 h2
  refine ⟨hc, hz, h.f.app.snoc (hn m), h.m.app, fun x hx => ?_, h.hm⟩
  rcases List.mem_append.1 hx with hx | hx
  · exact h.hs x hx
  · obtain rfl : x = _ := by simpa using hx
    exact hB
theorem grw_m {c : Cf.Cl} {hf hm : List (ByteArray × ByteArray)} {B : Nat} {l1 l2 : List L3.Cp.C} {a b : ByteArray} {i1 i2 : Nat} {e1 : Int} {m : Cf.Mb} (h : Grw c hf hm B) (h1 : AdS c.pool 0 ⟨1, a, 0, 0, 0⟩ l1 i1 e1) (h2 : AdS l1 e1 ⟨1, b, 0, 0, 0⟩ l2 i2 0)
    (hc : Cf.ClIs (mkM c l2 { m with nm := (i1 : Nat), ds := (i2 : Nat) }) 0) (hz : PoolSz l2) (hB : m.hs.length * 32 ≤ B) : Grw (mkM c l2 { m with nm := (i1 : Nat), ds := (i2 : Nat) }) hf (hm ++ [(a, b)]) B := by
  obtain ⟨⟨t, rfl⟩, hn⟩ := ads2 h1 h2
  refine ⟨hc, hz, h.f.app, h.m.app.snoc (hn m), h.hs, fun x hx => ?_⟩
  rcases List.mem_append.1 hx with hx | hx
  · exact h.hm x hx
  · obtain rfl : x = _ := by simpa using hx
    exact hB
end Go.Proofs.YtjnjnfhboafcgaaGreatDoor
namespace Go.Proofs.YtjnjnfhboafcgaaGreatDoor
open Go.RowKit

/-- Only blocks of some sort have been written, of those that there were. -/
def Off (S : Nat → Prop) (w W : World) : Prop := W.os = w.os ∧ W.tape = w.tape ∧ W.output = w.output ∧ w.heap.size ≤ W.heap.size ∧ ∀ i, i < w.heap.size → ¬ S i → W.heap[i]? = w.heap[i]?
theorem Off.refl (S : Nat → Prop) (w : World) : Off S w w := ⟨rfl, rfl, rfl, Nat.le_refl _, fun _ _ _ => rfl⟩
theorem Off.trans {S : Nat → Prop} {a b c : World} (h : Off S a b) (k : Off S b c) : Off S a c :=
  ⟨k.1.trans h.1, k.2.1.trans h.2.1, k.2.2.1.trans h.2.2.1, Nat.le_trans h.2.2.2.1 k.2.2.2.1, fun i hi hn => (k.2.2.2.2 i (Nat.lt_of_lt_of_le hi h.2.2.2.1) hn).trans (h.2.2.2.2 i hi hn)⟩
theorem Off.below {S : Nat → Prop} {w W : World} (hb : Below w.heap.size w W) : Off S w W := ⟨hb.os, hb.tape, hb.output, hb.size, fun i hi _ => hb.block i hi⟩
theorem Off.grown {S : Nat → Prop} {w W : World} {r : Option Nat} (hg : w.grownBy W r) (h : ∀ k, r = some k → S k) : Off S w W := ⟨hg.os, hg.tape, hg.output, hg.size, fun i hi hn => hg.block i hi (fun e => hn (h i e.symm))⟩
theorem Off.to_below {S : Nat → Prop} {w W : World} (h : Off S w W) {B : Nat} (hS : ∀ i, i < B → ¬ S i) (hB : B ≤ w.heap.size) : Below B w W := ⟨h.1, h.2.1, h.2.2.1, h.2.2.2.1, fun i hi => h.2.2.2.2 i (by omega) (hS i hi)⟩
theorem owns_off {S : Nat → Prop} {w W : World} {base : Nat} {e : TypeId} {size n : Nat} {v : Value} {xs : List Value} (h : w.ownsRow base e size v n xs) (k : Off S w W) (hS : ∀ i, v.ownBlock = some i → ¬ S i) : W.ownsRow base e size v n xs := by
  refine ⟨h.1, ?_⟩
  rcases h.2 with h2 | ⟨g, cap, cur, hv, hge, hh, r⟩
  · exact .inl h2
  · exact .inr ⟨g, cap, cur, hv, hge, (k.2.2.2.2 g (Array.getElem?_eq_some_iff.1 hh).1 (hS g (by rw [hv]; rfl))).trans hh, r⟩
theorem owns_off' {S : Nat → Prop} {w W : World} {base : Nat} {e : TypeId} {size n : Nat} {v : Value} {xs : List Value} (h : w.ownsRow base e size v n xs) (k : Off S w W) (hS : ∀ i, S i → i < base) : W.ownsRow base e size v n xs :=
  owns_off h k fun i hi hs => by have := Kit.own_base h i hi; have := hS i hs; omega
theorem OMb.off {S : Nat → Prop} {w W : World} {base : Nat} {cs : List Value} {m : Cf.Mb} (h : OMb w base cs m) (k : Off S w W) (hS : ∀ i, S i → i < base) : OMb W base cs m := by
  obtain ⟨cv, hv, h1, h2, h3, h4⟩ := h
  exact ⟨cv, hv, h1, owns_off' h2 k hS, owns_off' h3 k hS, h4⟩
theorem OMs.off {S : Nat → Prop} {w W : World} {base : Nat} {v : Value} {ms : List Cf.Mb} (h : OMs w base v ms) (k : Off S w W) (hS : ∀ i, S i → i < base) : OMs W base v ms := by
  obtain ⟨rs, h1, h2⟩ := h
  exact ⟨rs, h1.mono fun _ _ x => x.off k hS, owns_off' h2 k hS⟩
theorem OCl.off {S : Nat → Prop} {w W : World} {base : Nat} {vs : Array Value} {c : Cf.Cl} (h : OCl w base vs c) (k : Off S w W) (hS : ∀ i, S i → i < base) : OCl W base vs c := by
  obtain ⟨pv, fv, mv, h1, h2, h3, h4⟩ := h
  exact ⟨pv, fv, mv, h1, owns_off' h2 k hS, h3.off k hS, h4.off k hS⟩
/-- A class that reads as it is, whatever becomes of some blocks. -/
def ClA (S : Nat → Prop) (w : World) (vs : Array Value) (c : Cf.Cl) : Prop := ∀ W, Off S w W → ClR W vs c
theorem ClA.low {S : Nat → Prop} {w0 w : World} {vs : Array Value} {c : Cf.Cl} (h : ClR w0 vs c) (hb : Below w0.heap.size w0 w) (hS : ∀ i, i < w0.heap.size → ¬ S i) : ClA S w vs c := fun _ k => h.below (hb.trans (k.to_below hS hb.size)) (Nat.le_refl _)
theorem ClA.own {S : Nat → Prop} {w : World} {base : Nat} {vs : Array Value} {c : Cf.Cl} (h : OCl w base vs c) (hz : Cf.Sz c) (hS : ∀ i, S i → i < base) : ClA S w vs c := fun _ k => (h.off k hS).reads hz
theorem ClA.step {S S' : Nat → Prop} {w w2 : World} {vs : Array Value} {c : Cf.Cl} (h : ClA S w vs c) (k : Off S w w2) (hS : ∀ i, i < w.heap.size → S' i → S i) : ClA S' w2 vs c := fun W q =>
  h W ⟨q.1.trans k.1, q.2.1.trans k.2.1, q.2.2.1.trans k.2.2.1, Nat.le_trans k.2.2.2.1 q.2.2.2.1, fun i hi hn => (q.2.2.2.2 i (Nat.lt_of_lt_of_le hi k.2.2.2.1) (fun hs => hn (hS i hi hs))).trans (k.2.2.2.2 i hi hn)⟩
theorem ClA.here {S : Nat → Prop} {w : World} {vs : Array Value} {c : Cf.Cl} (h : ClA S w vs c) : ClR w vs c := h w (Off.refl _ _)
/-- The blocks that a loop writes: the class's box, the row that grows. -/
def Bad (b : Nat) (v : Value) (i : Nat) : Prop := i = b ∨ v.ownBlock = some i
theorem bad_box {b : Nat} {v : Value} {w W : World} (hg : w.grownBy W (some b)) : Off (Bad b v) w W := Off.grown hg fun k e => .inl (Option.some.inj e).symm
theorem bad_row {b : Nat} {v : Value} {w W : World} (hg : w.grownBy W v.ownBlock) : Off (Bad b v) w W := Off.grown hg fun _ e => .inr e
/-- A row's block is one that there is. -/
theorem own_lt {w : World} {base : Nat} {e : TypeId} {size n : Nat} {v : Value} {xs : List Value} (h : w.ownsRow base e size v n xs) : ∀ k, v.ownBlock = some k → k < w.heap.size := by
  rcases h.2 with ⟨rfl, -⟩ | ⟨g, cap, cur, rfl, -, hh, -⟩
  · intro k e; cases e
  · intro k e
    cases e
    exact (Array.getElem?_eq_some_iff.1 hh).1
/-- Names. -/
def nmL (x : ByteArray × ByteArray × ByteArray) : List Value := [.string x.1, .string x.2.1, .string x.2.2]
theorem nmL_len (x : ByteArray × ByteArray × ByteArray) : (nmL x).length = 3 := rfl
abbrev Nm3 := ByteArray × ByteArray × ByteArray
def hd3 (n : ByteArray × ByteArray) : Nm3 := (⟨#[]⟩, n.1, n.2)
theorem nm_at {w : World} {v : Value} {hs : List Nm3} (h : Kit.IsS 3 w v hs.length (hs.flatMap nmL)) {k : Nat} {x : Nm3} (hx : hs[k]? = some x) :
    ∃ b o cap, v = .slice (some ⟨b, o, none⟩) hs.length cap ∧ b < w.heap.size ∧ w.cell? ⟨b, o + k * 3, none⟩ = some (.string x.1) ∧ w.cell? ⟨b, o + k * 3 + 1, none⟩ = some (.string x.2.1) ∧ w.cell? ⟨b, o + k * 3 + 2, none⟩ = some (.string x.2.2) := by
  have hlt : k < hs.length := (List.getElem?_eq_some_iff.1 hx).1
  obtain ⟨b, o, cap, hv, -, hb, hc⟩ := h.some (by omega)
  have hf := fun j hj => Kit.flat_at nmL_len hx j hj
  refine ⟨b, o, cap, hv, hb, ?_, ?_, ?_⟩
  · exact hc (k * 3) _ (by have := hf 0 (by omega); simpa [nmL] using this)
  · exact Nat.add_assoc o (k * 3) 1 ▸ hc _ _ (by rw [hf 1 (by omega)]; rfl)
  · exact Nat.add_assoc o (k * 3) 2 ▸ hc _ _ (by rw [hf 2 (by omega)]; rfl)
theorem news_n (w : World) (x : Nm3) : ∀ j u, (nmL x)[j]? = some u → (w.alloc (.cells #[.string x.1, .string x.2.1, .string x.2.2] 44)).cell? ((⟨w.heap.size, 0, none⟩ : Addr).add j) = some u := by
  intro j u hj
  match j, hj with
  | 0, hj | 1, hj | 2, hj => simp [nmL] at hj; subst hj; simp [Addr.add, go_sem]
  | j + 3, hj => simp [nmL] at hj
theorem ones_n (x : Nm3) : ∀ u ∈ nmL x, u.oneCell' = true := by
  intro u hu
  simp [nmL] at hu
  rcases hu with rfl | rfl | rfl <;> rfl
end Go.Proofs.YtjnjnfhboafcgaaGreatDoor
namespace Go.Proofs.YtjnjnfhboafcgaaGreatDoor
open Go.RowKit

theorem w2s_len (l : List Int) : (l.flatMap Cf.w2).length = 2 * l.length := by
  induction l with
  | nil => rfl
  | cons a l ih => rw [List.flatMap_cons, List.length_append, ih, Cf.w2_len, List.length_cons]; omega
theorem own2 {w : World} {base : Nat} {v : Value} {l : List Int} {a b : Int} (h : w.ownsRow base 5 1 v (l.length + 2) (l.map (Value.int .u8) ++ [.int .u8 a, .int .u8 b])) : L3.OwnI w base v (l ++ [a, b]) := by
  unfold L3.OwnI
  rw [List.length_append, List.map_append]
  exact h
theorem own_form3 {w : World} {base : Nat} {v : Value} {l : List Int} (h : L3.OwnI w base v l) : ∃ a k c, v = .slice a k c := by
  obtain ⟨a, c, h2⟩ := L3.own_form h
  exact ⟨a, _, c, h2⟩
theorem news_two (w : World) (a b : Value) (T : TypeId) : ∀ j u, [a, b][j]? = some u → (w.alloc (.cells #[a, b] T)).cell? ((⟨w.heap.size, 0, none⟩ : Addr).add j) = some u := by
  intro j u hj
  rw [Go.WideShapes.add_plain, Nat.zero_add, (L3.BX.new w #[a, b] T).cell]
  simpa using hj
set_option maxRecDepth 100000 in
set_option maxHeartbeats 2000000 in
theorem wu2_any (base : Nat) (v : Value) (l ns : List Int) (nb cap : Nat) (w : World) (ho : L3.OwnI w base v l) (hb : base ≤ w.heap.size) (hn : nb < w.heap.size) (hne : ∀ k, v.ownBlock = some k → k ≠ nb)
    (hc : ∀ j n, ns[j]? = some n → w.cell? ⟨nb, j, none⟩ = some (.int .i64 n)) (hl : l.length + 2 * ns.length ≤ 140737488355328) :
    Calls Tryz.prog 90 #[v, .slice (some ⟨nb, 0, none⟩) ns.length cap] w fun e w' => ∃ v', e = .returned v' ∧ L3.OwnI w' base v' (l ++ ns.flatMap Cf.w2) ∧ Kit.Grows w w' v v' := by
  obtain ⟨i0, hi, hz0, hz1, hz2⟩ := info_parts infoB
  have HC := hid hc
  have HO0 := hid ho
  have HNe := hid hne
  obtain ⟨a0, cp0, rfl⟩ := L3.own_form ho
  clear hc ho hne
  go_enter Tryz.func90, Tryz.ntmps90
  go_wp2
  go_loopw [0, 9] (fun u i wr => ∃ j : Nat, i = .int .i64 j ∧ j ≤ ns.length ∧ L3.OwnI wr base u (l ++ (ns.take j).flatMap Cf.w2) ∧ Kit.Grows w wr (.slice a0 l.length cp0) u) (fun _ i _ => ns.length - (intOf i).toNat)
  case atStart => exact ⟨0, rfl, by omega, by simpa using HO0.out, Kit.Grows.refl _ _⟩
  case round =>
    obtain ⟨j, rfl, hj, HO, HG⟩ := hrel
    have hz := HG.size
    by_cases hlt : j < ns.length
    · obtain ⟨n, hx⟩ : ∃ x, ns[j]? = some x := ⟨ns[j], List.getElem?_eq_getElem hlt⟩
      have c0 : wr.cell? ⟨nb, j, none⟩ = some (.int .i64 n) := by rw [HG.cell hn HNe.out]; exact HC.out j n hx
      have hji : (j : Int) < (ns.length : Int) := by omega
      have HX := hid hx
      have HLn := hid (show (l ++ (ns.take j).flatMap Cf.w2).length = l.length + 2 * j by rw [List.length_append, w2s_len, List.length_take]; omega)
      obtain ⟨L, hL⟩ : ∃ L, L = l ++ (ns.take j).flatMap Cf.w2 := ⟨_, rfl⟩
      rw [← hL] at HO HLn
      have HLe := hid hL
      obtain ⟨a1, cp1, rfl⟩ := L3.own_form HO
      have HLs := hid (show L.length + 2 ≤ 140737488355328 by have := HLn.out; omega)
      clear hx hL
      go_wp2_with (at_builtin; refine wpList_append_own_at _ rfl (.tmp 13) (.tmp 19) 22 rfl base 5 i0 _ 1 1 Tryz.underlying22 hi hz0 hz1 hz2 rfl (by decide) _ _ _ rfl (World.ownsRow.alloc HO _) ⟨wr.heap.size, 0, none⟩ 2 2 [.int .u8 (n / 256 % 256), .int .u8 (n % 256)] rfl rfl (news_two _ _ _ _) (by (intro u hu; simp at hu; rcases hu with rfl | rfl <;> rfl)) (by (have := HLs.out; unfold maxLen; omega)) (by (have := HLs.out; omega)) (by simp only [World.size_alloc]; omega) ?_; intro v1 w1 ho1' hg1 _ hk1; have ho1 := own2 ho1'; have G1 := Kit.grows_append ((Below.refl wr.heap.size wr).alloc (Nat.le_refl _) _) hg1 hk1; clear ho1' hg1 hk1)
      go_roundw
      case rel =>
        refine ⟨j + 1, by go_num, by omega, ?_, HG.trans G1⟩
        rw [List.take_add_one, HX.out, Option.toList_some, List.flatMap_append, ← List.append_assoc, ← HLe.out]
        simpa [Cf.w2] using ho1
      case measure => simp [intOf]; omega
    · obtain rfl : j = ns.length := by omega
      rw [List.take_length] at HO
      obtain ⟨a1, cp1, hv1⟩ := L3.own_form HO
      subst hv1
      go_wp2
      go_ret
      exact ⟨_, rfl, HO, HG⟩
set_option maxRecDepth 100000 in
set_option maxHeartbeats 1000000 in
theorem wu4_any (base : Nat) (v : Value) (l : List Int) (n : Int) (w : World) (ho : L3.OwnI w base v l) (hb : base ≤ w.heap.size) (h0 : ∀ k, v.ownBlock = some k → k < w.heap.size) (hl : l.length + 4 ≤ 140737488355328) :
    Calls Tryz.prog 89 #[v, .int .i64 n] w fun e w' => ∃ v', e = .returned v' ∧ L3.OwnI w' base v' (l ++ Cf.w4 n) ∧ Kit.Grows w w' v v' := by
  have HU := hid (wu2_any base v l [n / 65536, n] w.heap.size 2 (w.alloc (.cells #[.int .i64 (n / 65536), .int .i64 n] 3)) (World.ownsRow.alloc ho _) (by simp; omega) (by simp) (fun k hk => by have := h0 k hk; omega)
    (fun j x hx => by
      rw [(L3.BX.new w #[.int .i64 (n / 65536), .int .i64 n] 3).cell]
      match j, hx with
      | 0, hx => simp at hx; subst hx; rfl
      | 1, hx => simp at hx; subst hx; rfl) (by simpa using hl))
  obtain ⟨a0, cp0, rfl⟩ := L3.own_form ho
  clear ho
  go_enter Tryz.func89, Tryz.ntmps89
  go_wp2_with (go_at_call 90; refine HU.out.mono ?_; rintro e w1 ⟨v1, rfl, o1, g1⟩; obtain ⟨a1, k1, cp1, rfl⟩ := own_form3 o1)
  go_ret
  exact ⟨_, rfl, by simpa [Cf.w4] using o1, ((Kit.Grows.refl w _).below ((Below.refl _ _).alloc (Nat.le_refl _) _)).trans g1⟩
end Go.Proofs.YtjnjnfhboafcgaaGreatDoor
namespace Go.Proofs.YtjnjnfhboafcgaaGreatDoor
open Go.RowKit

/-- A row of bytes that the writer owns; what was there at first is as it was. -/
def Wr (w0 w : World) (v : Value) (l : List Int) : Prop := L3.OwnI w w0.heap.size v l ∧ Below w0.heap.size w0 w
theorem Wr.grow {w0 w w' : World} {v v' : Value} {l l' : List Int} (h : Wr w0 w v l) (ho : L3.OwnI w' w0.heap.size v' l') (hg : Kit.Grows w w' v v') : Wr w0 w' v' l' := ⟨ho, hg.to_below h.2 h.2.size (Kit.own_base h.1)⟩
theorem Wr.alloc {w0 w : World} {v : Value} {l : List Int} (h : Wr w0 w v l) (o : Obj) : Wr w0 (w.alloc o) v l := ⟨World.ownsRow.alloc h.1 _, h.2.alloc h.2.size _⟩
theorem Wr.below {w0 w w' : World} {v : Value} {l : List Int} (h : Wr w0 w v l) (hb : Below w.heap.size w w') : Wr w0 w' v l := ⟨Kit.owns_below h.1 hb (Nat.le_refl _), belows h.2 hb h.2.size⟩
theorem Wr.form {w0 w : World} {v : Value} {l : List Int} (h : Wr w0 w v l) : ∃ a cap, v = .slice a l.length cap := L3.own_form h.1
theorem Wr.nil (w0 w : World) (h : Below w0.heap.size w0 w) : Wr w0 w (.slice none 0 0) [] := ⟨L3.nilI _ _, h⟩
def WP (w0 w : World) (v : Value) (l' : List Int) (e : Ending) (w' : World) : Prop := ∃ v', e = .returned v' ∧ Wr w0 w' v' l' ∧ Kit.Grows w w' v v'
/-- Another row stays as it is, and apart. -/
theorem grows_owns {w w' : World} {v v' u : Value} {base n size : Nat} {e : TypeId} {xs : List Value} (hg : Kit.Grows w w' v v') (hu : w.ownsRow base e size u n xs) (hne : ∀ k, u.ownBlock = some k → v.ownBlock ≠ some k) : w'.ownsRow base e size u n xs ∧ ∀ k, u.ownBlock = some k → v'.ownBlock ≠ some k := by
  refine ⟨⟨hu.1, ?_⟩, fun k hk e => ?_⟩
  · rcases hu.2 with h | ⟨g, cap, cur, rfl, hge, hh, r⟩
    · exact .inl h
    · exact .inr ⟨g, cap, cur, rfl, hge, (hg.grown.block g (Array.getElem?_eq_some_iff.1 hh).1 (fun e => hne g rfl e.symm)).trans hh, r⟩
  · have hlt := Kit.own_lt hu k hk
    rcases hg.blk with e2 | ⟨j, hj, e2⟩
    · rw [e2] at e; exact hne k hk e
    · rw [e2] at e; have := Option.some.inj e; omega
/-- u2 over numbers in a block that has just been made. -/
theorem wu2_lit (w0 : World) (v : Value) (l ns : List Int) (vals : Array Value) (T : TypeId) (cap : Nat) (W0 : World) (h : Wr w0 W0 v l) (hv : vals.toList = ns.map (Value.int .i64)) (hl : l.length + 2 * ns.length ≤ 140737488355328) :
    Calls Tryz.prog 90 #[v, .slice (some ⟨W0.heap.size, 0, none⟩) ns.length cap] (W0.alloc (.cells vals T)) (WP w0 W0 v (l ++ ns.flatMap Cf.w2)) := by
  refine (wu2_any w0.heap.size v l ns W0.heap.size cap (W0.alloc (.cells vals T)) (World.ownsRow.alloc h.1 _) (by have := h.2.size; rw [World.size_alloc]; omega) (by rw [World.size_alloc]; omega) (fun k hk => by have := Kit.own_lt h.1 k hk; omega) (fun j n hj => ?_) hl).mono ?_
  · rw [(L3.BX.new W0 vals T).cell, ← Array.getElem?_toList, hv, List.getElem?_map, hj]
    rfl
  · rintro e w' ⟨v', rfl, h1, h2⟩
    have hG : Kit.Grows W0 w' v v' := ((Kit.Grows.refl W0 v).below ((Below.refl _ _).alloc (Nat.le_refl _) _)).trans h2
    exact ⟨v', rfl, h.grow h1 hG, hG⟩
theorem wu4_wr (w0 : World) (v : Value) (l : List Int) (n : Int) (w : World) (h : Wr w0 w v l) (hl : l.length + 4 ≤ 140737488355328) :
    Calls Tryz.prog 89 #[v, .int .i64 n] w (WP w0 w v (l ++ Cf.w4 n)) := by
  refine (wu4_any w0.heap.size v l n w h.1 h.2.size (fun k hk => Kit.own_lt h.1 k hk) hl).mono ?_
  rintro e w' ⟨v', rfl, h1, h2⟩
  exact ⟨v', rfl, h.grow h1 h2, h2⟩
theorem wf_lit (w0 : World) (v : Value) (l : List Int) (m : Cf.Mb) (cv hv : Value) (w : World) (h : Wr w0 w v l) (hl : l.length + 8 ≤ 140737488355328) :
    Calls Tryz.prog 90 #[v, .slice (some ⟨w.heap.size + 1, 0, none⟩) 4 4] ((w.alloc (.cells #[.int .i64 m.ac, .int .i64 m.nm, .int .i64 m.ds, .int .i64 m.st, .int .i64 m.lc, cv, hv] 42)).alloc (.cells #[.int .i64 m.ac, .int .i64 m.nm, .int .i64 m.ds, .int .i64 0] 3)) (WP w0 (w.alloc (.cells #[.int .i64 m.ac, .int .i64 m.nm, .int .i64 m.ds, .int .i64 m.st, .int .i64 m.lc, cv, hv] 42)) v (l ++ Cf.fdB m)) := by
  have H := wu2_lit w0 v l [m.ac, m.nm, m.ds, 0] #[.int .i64 m.ac, .int .i64 m.nm, .int .i64 m.ds, .int .i64 0] 3 4 (w.alloc (.cells #[.int .i64 m.ac, .int .i64 m.nm, .int .i64 m.ds, .int .i64 m.st, .int .i64 m.lc, cv, hv] 42)) (h.alloc _) rfl hl
  rw [World.size_alloc] at H
  have e : [m.ac, m.nm, m.ds, 0].flatMap Cf.w2 = Cf.fdB m := rfl
  rw [e] at H
  exact H
theorem wh_lit (w0 : World) (v : Value) (l : List Int) (x : Cf.Hn) (w : World) (h : Wr w0 w v l) (hl : l.length + 8 ≤ 140737488355328) :
    Calls Tryz.prog 90 #[v, .slice (some ⟨w.heap.size + 1, 0, none⟩) 4 4] ((w.alloc (.cells #[.int .i64 x.f, .int .i64 x.t, .int .i64 x.a, .int .i64 x.y] 58)).alloc (.cells #[.int .i64 x.f, .int .i64 x.t, .int .i64 x.a, .int .i64 x.y] 3)) (WP w0 (w.alloc (.cells #[.int .i64 x.f, .int .i64 x.t, .int .i64 x.a, .int .i64 x.y] 58)) v (l ++ Cf.hnB x)) := by
  have H := wu2_lit w0 v l [x.f, x.t, x.a, x.y] #[.int .i64 x.f, .int .i64 x.t, .int .i64 x.a, .int .i64 x.y] 3 4 (w.alloc (.cells #[.int .i64 x.f, .int .i64 x.t, .int .i64 x.a, .int .i64 x.y] 58)) (h.alloc _) rfl hl
  rw [World.size_alloc] at H
  have e : [x.f, x.t, x.a, x.y].flatMap Cf.w2 = Cf.hnB x := rfl
  rw [e] at H
  exact H
theorem WP.al {w0 w : World} {v : Value} {l : List Int} {o : Obj} {e : Ending} {w' : World} (h : WP w0 (w.alloc o) v l e w') : WP w0 w v l e w' := by
  obtain ⟨v', h1, h2, h3⟩ := h
  exact ⟨v', h1, h2, ((Kit.Grows.refl w v).below ((Below.refl _ _).alloc (Nat.le_refl _) _)).trans h3⟩
set_option maxRecDepth 100000 in
set_option maxHeartbeats 1000000 in
theorem wfield_any (w0 : World) (v : Value) (l : List Int) (m : Cf.Mb) (cv hv : Value) (w : World) (h : Wr w0 w v l) (hl : l.length + 8 ≤ 140737488355328) (hcv : ∃ a n c, cv = .slice a n c) (hhv : ∃ a n c, hv = .slice a n c) :
    Calls Tryz.prog 92 #[v, mbV m cv hv] w (WP w0 w v (l ++ Cf.fdB m)) := by
  have HU := hid (wf_lit w0 v l m cv hv w h hl)
  obtain ⟨a0, cp0, rfl⟩ := h.form
  obtain ⟨xa, xn, xc, rfl⟩ := hcv
  obtain ⟨ya, yn, yc, rfl⟩ := hhv
  unfold mbV
  clear h hl
  go_enter Tryz.func92, Tryz.ntmps92
  go_wp2_with (go_at_call 90; refine HU.out.mono ?_; rintro e w1 ⟨v1, rfl, h1, g1⟩; obtain ⟨a1, k1, cp1, rfl⟩ := own_form3 h1.1)
  go_ret
  exact WP.al ⟨_, rfl, h1, g1⟩
set_option maxRecDepth 100000 in
set_option maxHeartbeats 1000000 in
theorem whandler_any (w0 : World) (v : Value) (l : List Int) (x : Cf.Hn) (w : World) (h : Wr w0 w v l) (hl : l.length + 8 ≤ 140737488355328) :
    Calls Tryz.prog 146 #[v, hnV x] w (WP w0 w v (l ++ Cf.hnB x)) := by
  have HU := hid (wh_lit w0 v l x w h hl)
  obtain ⟨a0, cp0, rfl⟩ := h.form
  unfold hnV
  clear h hl
  go_enter Tryz.func146, Tryz.ntmps146
  go_wp2_with (go_at_call 90; refine HU.out.mono ?_; rintro e w1 ⟨v1, rfl, h1, g1⟩; obtain ⟨a1, k1, cp1, rfl⟩ := own_form3 h1.1)
  go_ret
  exact WP.al ⟨_, rfl, h1, g1⟩
end Go.Proofs.YtjnjnfhboafcgaaGreatDoor
namespace Go.Proofs.YtjnjnfhboafcgaaGreatDoor
open Go.RowKit

theorem wu2_k (w0 : World) (v : Value) (l ns : List Int) (vals : Array Value) (T : TypeId) (k cap b : Nat) (W0 : World) (h : Wr w0 W0 v l) (hv : vals.toList = ns.map (Value.int .i64)) (hl : l.length + 2 * k ≤ 140737488355328) (hk : ns.length = k) (hb : b = W0.heap.size) :
    Calls Tryz.prog 90 #[v, .slice (some ⟨b, 0, none⟩) k cap] (W0.alloc (.cells vals T)) (WP w0 W0 v (l ++ ns.flatMap Cf.w2)) := by
  subst hk hb
  exact wu2_lit w0 v l ns vals T cap W0 h hv hl
theorem w2_one (n : Int) : [n].flatMap Cf.w2 = Cf.w2 n := rfl
theorem take_flat {α β : Type} {f : α → List β} {l : List α} {k : Nat} {x : α} (h : l[k]? = some x) : (l.take (k + 1)).flatMap f = (l.take k).flatMap f ++ f x := by
  rw [List.take_add_one, h, List.flatMap_append]
  simp
theorem hns_len : ∀ l : List Cf.Hn, (l.flatMap Cf.hnB).length = 8 * l.length
  | [] => rfl
  | a :: l => by rw [List.flatMap_cons, List.length_append, hns_len l, List.length_cons]; show 8 + _ = _; omega
theorem fds_len : ∀ l : List Cf.Mb, (l.flatMap Cf.fdB).length = 8 * l.length
  | [] => rfl
  | a :: l => by rw [List.flatMap_cons, List.length_append, fds_len l, List.length_cons]; show 8 + _ = _; omega
theorem grows_al {w w' : World} {v v' : Value} {o : Obj} (h : Kit.Grows (w.alloc o) w' v v') : Kit.Grows w w' v v' := ((Kit.Grows.refl w v).below ((Below.refl _ _).alloc (Nat.le_refl _) _)).trans h
def whFn : Value := .func (.func 146) #[] #[]
set_option maxRecDepth 100000 in
set_option maxHeartbeats 1000000 in
theorem whs_any (w0 : World) (v : Value) (l : List Int) (hs : List Cf.Hn) (hv : Value) (w : World) (h : Wr w0 w v l) (hS : Kit.IsS 4 w0 hv hs.length (hs.flatMap hL)) (hl : l.length + 2 + 8 * hs.length ≤ 140737488355328) :
    Calls Tryz.prog 145 #[v, hv, whFn] w (WP w0 w v (l ++ Cf.w2 hs.length ++ hs.flatMap Cf.hnB)) := by
  have HW := hid h
  have HS := hid hS
  have HL := hid hl
  have HH := hid (fun (v : Value) (l : List Int) (x : Cf.Hn) (w : World) h hl => whandler_any w0 v l x w h hl)
  obtain ⟨a0, cp0, rfl⟩ := h.form
  obtain ⟨ha, hc, rfl⟩ := hS.len
  unfold whFn
  unfold hnV at HH
  have hhl := hS.2.1
  clear h hS hl
  go_enter Tryz.func145, Tryz.ntmps145
  go_wp2_with (go_at_call 90; refine (wu2_k w0 _ _ [(hs.length : Int)] _ _ 1 1 _ _ HW.out rfl (by have := HL.out; omega) rfl rfl).mono ?_; rintro e w1 ⟨v1, rfl, h1, g1⟩; rw [w2_one] at h1; have H1 := hid h1; have G1 := hid g1; obtain ⟨a1, k1, cp1, rfl⟩ := own_form3 h1.1; clear h1 g1)
  go_loopw [0, 16] (fun u i wr => ∃ k : Nat, k ≤ hs.length ∧ i = .int .i64 k ∧ Hid (Wr w0 wr u (l ++ Cf.w2 hs.length ++ (hs.take k).flatMap Cf.hnB)) ∧ Hid (Kit.Grows w wr (.slice a0 l.length cp0) u)) (fun _ i _ => hs.length - (intOf i).toNat)
  case atStart => exact ⟨0, by omega, rfl, hid (by simpa using H1.out), G1⟩
  case round =>
    obtain ⟨k, hk, rfl, HR, HG⟩ := hrel
    obtain ⟨a2, k2, cp2, rfl⟩ := own_form3 HR.out.1
    by_cases hlt : k < hs.length
    · obtain ⟨x, hx⟩ : ∃ x, hs[k]? = some x := ⟨hs[k], List.getElem?_eq_getElem hlt⟩
      obtain ⟨b, o, cap', hv2, hb, c0, c1, c2, c3⟩ := h_at (HS.out.below HR.out.2 (Nat.le_refl _)) hx
      obtain ⟨rfl, -, rfl⟩ := Value.slice.inj hv2
      have HX := hid hx
      have hki : (k : Int) < (hs.length : Int) := by omega
      have HLn := hid (show (l ++ Cf.w2 hs.length ++ (hs.take k).flatMap Cf.hnB).length + 8 ≤ 140737488355328 by rw [List.length_append, List.length_append, hns_len, List.length_take, Cf.w2_len]; have := HL.out; omega)
      obtain ⟨xf, xt, xa, xy⟩ := x
      dsimp only at c0 c1 c2 c3
      clear hx hv2
      go_wp2_with (go_at_call 146; refine (HH.out _ _ ⟨xf, xt, xa, xy⟩ _ (HR.out.alloc _) HLn.out).mono ?_; rintro e w2 ⟨v2, rfl, h2, g2⟩; have H2 := hid h2; have G2 := hid (grows_al (w := wr) g2); clear h2 g2)
      go_roundw
      case rel => exact ⟨k + 1, by omega, by go_num, hid (by rw [take_flat HX.out, ← List.append_assoc]; exact H2.out), hid (HG.out.trans G2.out)⟩
      case measure => simp [intOf]; omega
    · obtain rfl : k = hs.length := by omega
      have H9 := HR.out
      rw [List.take_length] at H9
      have H9 := hid H9
      go_wp2
      go_ret
      exact ⟨_, rfl, H9.out, HG.out⟩
def wfFn : Value := .func (.func 92) #[] #[]
set_option maxRecDepth 100000 in
set_option maxHeartbeats 1000000 in
theorem wfs_any (w0 : World) (v : Value) (l : List Int) (fs : List Cf.Mb) (fv : Value) (w : World) (h : Wr w0 w v l) (hF : MsR w0 fv fs) (hl : l.length + 2 + 8 * fs.length ≤ 140737488355328) :
    Calls Tryz.prog 91 #[v, fv, wfFn] w (WP w0 w v (l ++ Cf.w2 fs.length ++ fs.flatMap Cf.fdB)) := by
  have HW := hid h
  have HS := hid hF
  have HL := hid hl
  have HH := hid (fun (v : Value) (l : List Int) (m : Cf.Mb) (cv hv : Value) (w : World) h hl hc hh => wfield_any w0 v l m cv hv w h hl hc hh)
  obtain ⟨a0, cp0, rfl⟩ := h.form
  obtain ⟨ha, hc, rfl⟩ := hF.len
  unfold wfFn
  unfold mbV at HH
  have hhl := hF.size
  clear h hF hl
  go_enter Tryz.func91, Tryz.ntmps91
  go_wp2_with (go_at_call 90; refine (wu2_k w0 _ _ [(fs.length : Int)] _ _ 1 1 _ _ HW.out rfl (by have := HL.out; omega) rfl rfl).mono ?_; rintro e w1 ⟨v1, rfl, h1, g1⟩; rw [w2_one] at h1; have H1 := hid h1; have G1 := hid g1; obtain ⟨a1, k1, cp1, rfl⟩ := own_form3 h1.1; clear h1 g1)
  go_loopw [0, 16] (fun u i wr => ∃ k : Nat, k ≤ fs.length ∧ i = .int .i64 k ∧ Hid (Wr w0 wr u (l ++ Cf.w2 fs.length ++ (fs.take k).flatMap Cf.fdB)) ∧ Hid (Kit.Grows w wr (.slice a0 l.length cp0) u)) (fun _ i _ => fs.length - (intOf i).toNat)
  case atStart => exact ⟨0, by omega, rfl, hid (by simpa using H1.out), G1⟩
  case round =>
    obtain ⟨k, hk, rfl, HR, HG⟩ := hrel
    obtain ⟨a2, k2, cp2, rfl⟩ := own_form3 HR.out.1
    by_cases hlt : k < fs.length
    · obtain ⟨⟨ac, nm, ds, st, lc, co, hs9⟩, hx⟩ : ∃ x, fs[k]? = some x := ⟨fs[k], List.getElem?_eq_getElem hlt⟩
      obtain ⟨b, o, cap', cv, hw, hv2, hbb, hB, hH, hcl, c0, c1, c2, c3, c4, c5, c6⟩ := (HS.out.below HR.out.2 (Nat.le_refl _)).at hx
      obtain ⟨rfl, -, rfl⟩ := Value.slice.inj hv2
      have HX := hid hx
      have hki : (k : Int) < (fs.length : Int) := by omega
      have HLn := hid (show (l ++ Cf.w2 fs.length ++ (fs.take k).flatMap Cf.fdB).length + 8 ≤ 140737488355328 by rw [List.length_append, List.length_append, fds_len, List.length_take, Cf.w2_len]; have := HL.out; omega)
      dsimp only at c0 c1 c2 c3 c4 c5 c6 hB hH
      obtain ⟨xa, xc, rfl⟩ := hB.len
      obtain ⟨ya, yc, rfl⟩ := hH.len
      clear hx hv2 hB hH hcl
      go_wp2_with (go_at_call 92; refine (HH.out _ _ ⟨ac, nm, ds, st, lc, co, hs9⟩ _ _ _ (HR.out.alloc _) HLn.out ⟨_, _, _, rfl⟩ ⟨_, _, _, rfl⟩).mono ?_; rintro e w2 ⟨v2, rfl, h2, g2⟩; have H2 := hid h2; have G2 := hid (grows_al (w := wr) g2); clear h2 g2)
      go_roundw
      case rel => exact ⟨k + 1, by omega, by go_num, hid (by rw [take_flat HX.out, ← List.append_assoc]; exact H2.out), hid (HG.out.trans G2.out)⟩
      case measure => simp [intOf]; omega
    · obtain rfl : k = fs.length := by omega
      have H9 := HR.out
      rw [List.take_length] at H9
      have H9 := hid H9
      go_wp2
      go_ret
      exact ⟨_, rfl, H9.out, HG.out⟩
end Go.Proofs.YtjnjnfhboafcgaaGreatDoor
