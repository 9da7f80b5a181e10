/- Own texts for the claim, part 19. -/
import Derived.Test.YtigbaagienjboaaGreatDoorZK18
import Derived.Lib.QuietBelow
set_option maxRecDepth 100000
namespace Go.Proofs.YtigbaagienjboaaGreatDoor
open Go.RowKit
theorem ahead_take (P : List L3.Cp.C) (ms : List Cf.Mb) (k : Nat) (h : k ≤ ms.length) : Cf.ahead P (ms.take k) (ms.take k).length = Cf.ahead P ms k:=by
 unfold Cf.ahead
 rw [List.take_length]
theorem MsC.take {w : World} : ∀ {rs : List (List Value)} {ms : List Cf.Mb} (k : Nat),MsC w rs ms → MsC w (rs.take k) (ms.take k)
 | _,_,0,_=>by simp [MsC]
 | [],[],_ + 1,_=>by simp [MsC]
 | _ :: _,_ :: _,k + 1,h=>⟨h.1,MsC.take k h.2⟩
 | [],_ :: _,_,h=>h.elim
 | _ :: _,[],_,h=>h.elim
theorem flat_take7 : ∀ {rs : List (List Value)} (k : Nat),(∀ r ∈ rs,r.length = 7) → (rs.take k).flatten = rs.flatten.take (k * 7)
 | _,0,_=>by simp
 | [],_ + 1,_=>by simp
 | r :: rs,k + 1,h=>by
  have h1:=h r (by simp)
  rw [List.take_succ_cons,List.flatten_cons,List.flatten_cons,flat_take7 k (fun x hx=>h x (by simp [hx])),show (k + 1) * 7 = r.length + k * 7 by omega,List.take_length_add_append]
theorem MsC.lens {w : World} : ∀ {rs : List (List Value)} {ms : List Cf.Mb},MsC w rs ms → ∀ r ∈ rs,r.length = 7
 | [],_,_,r,hr=>by cases hr
 | x :: rs,m :: ms,h,r,hr=>by
  rcases List.mem_cons.1 hr with rfl|hr
  ·exact h.1.len
  ·exact MsC.lens h.2 r hr
 | _ :: _,[],h,_,_=>h.elim
theorem MsR.take {w : World} {a : Option Addr} {n cap : Nat} {ms : List Cf.Mb} (h : MsR w (.slice a n cap) ms) {k : Nat} (hk : k ≤ ms.length) : MsR w (.slice a k cap) (ms.take k):=by
 obtain ⟨rs,h1,h2⟩:=h
 refine ⟨rs.take k,h1.take k,?_⟩
 have hl : (ms.take k).length = k:=by rw [List.length_take];omega
 rw [hl,flat_take7 k h1.lens]
 refine ⟨by rw [List.length_take,h2.1];omega,by have:=h2.2.1;omega,?_⟩
 rcases h2.2.2 with ⟨h0,a',cap',hv⟩|⟨b,o,cap',hv,hc,hb,hx⟩
 ·obtain ⟨rfl,-,rfl⟩:=Value.slice.inj hv
  exact .inl ⟨by omega,a,cap,by rw [show k = 0 by omega]⟩
 ·obtain ⟨rfl,-,rfl⟩:=Value.slice.inj hv
  by_cases h0 : k = 0
  ·exact .inl ⟨h0,_,cap,by rw [h0]⟩
  ·exact .inr ⟨b,o,cap,rfl,by omega,hb,fun i u hi=>hx i u (by
    rw [List.getElem?_take] at hi
    split at hi
    ·exact hi
    ·cases hi)⟩
set_option maxHeartbeats 4000000 in
theorem rfieldAt_any (c : Cf.Cl) (vs : Array Value) (k : Nat) (m : Cf.Mb) (w : World) (h : ClR w vs c) (hk : c.fs[k]? = some m) :
  Calls Tryz.prog 59 #[.agg vs,.int .i64 (k : Nat)] w fun e w'=>e = .returned (.int .i64 (Cf.fdE c.pool (Cf.ahead c.pool c.fs k) m)) ∧ Below w.heap.size w w':=by
 have hkl : k < c.fs.length:=(List.getElem?_eq_some_iff.1 hk).1
 obtain ⟨pv,fv,mv,hvs,hp,hf,hm9⟩:=h
 have hcl : ClR w vs c:=⟨pv,fv,mv,hvs,hp,hf,hm9⟩
 obtain ⟨b,o,cap',cv,hw,rfl,hbb,hB,hH,hl,c0,c1,c2,c3,c4,c5,c6⟩:=hf.at hk
 obtain ⟨pa,pc,rfl⟩:=hp.len
 obtain ⟨ma,mc,rfl⟩:=hm9.len
 obtain ⟨xa,xc,rfl⟩:=hB.len
 obtain ⟨ya,yc,rfl⟩:=hH.len
 have HK0:=fun W (q : Below w.heap.size w W)=>rnamed_any c vs m (.slice xa m.code.length xc) (.slice ya m.hs.length yc) W (hcl.below q (Nat.le_refl _))
 have hcap : c.fs.length ≤ cap':=by
  obtain ⟨rs,-,h2⟩:=hf
  rcases h2.2.2 with ⟨h0,-⟩|⟨b',o',cap2,hv,hc,-⟩
  ·omega
  ·obtain ⟨-,-,rfl⟩:=Value.slice.inj hv
   exact hc
 have HT0:=fun n W (q : Below w.heap.size w W)=>rtwice_any c vs (c.fs.take k) (.slice (some ⟨b,o,none⟩) k cap') n W (hcl.below q (Nat.le_refl _)) ((hf.take (Nat.le_of_lt hkl)).below q (Nat.le_refl _))
 rw [ahead_take _ _ _ (Nat.le_of_lt hkl)] at HT0
 have hln:=hf.size
 obtain ⟨X,hX⟩ : ∃ X,X = Cf.fdE c.pool (Cf.ahead c.pool c.fs k) m:=⟨_,rfl⟩
 rw [← hX]
 unfold Cf.fdE Cf.plainM at hX
 have hnm:=@nm_mb c.pool m
 obtain ⟨bi,hbi⟩ : ∃ b,b = Cf.inB (Cf.nmO c.pool m).1 (Cf.ahead c.pool c.fs k):=⟨_,rfl⟩
 have HT1:=HT0 (Cf.nmO c.pool m).1
 rw [← hbi] at hX HT1
 obtain ⟨⟨⟨n1,n2⟩,er⟩,hx⟩ : ∃ x,x = Cf.nmO c.pool m:=⟨_,rfl⟩
 rw [← hx] at HK0 hX HT1
 dsimp only at HK0 hX HT1
 have HF0:=fun W=>L2.rfield_any n2 W
 unfold L2.FdPost at HF0
 obtain ⟨⟨⟨tk,tm⟩,fe⟩,hy⟩ : ∃ y,y = L2.fdOut (L2.Ds.bl n2):=⟨_,rfl⟩
 rw [← hy] at HF0 hX
 unfold L2.tyV at HF0
 unfold ndV at HK0 HT1
 obtain ⟨ac,nm,ds,st,lc,co,hs9⟩:=m
 dsimp only at HF0 hX
 unfold mbV at HK0
 dsimp only at HK0 c0 c1 c2 c3 c4 c5 c6
 obtain ⟨cl,hcl9⟩ : ∃ n,n = co.length:=⟨_,rfl⟩
 obtain ⟨hl9,hhl⟩ : ∃ n,n = hs9.length:=⟨_,rfl⟩
 rw [← hcl9] at HK0 hX c5
 rw [← hhl] at HK0 hX c6
 have hin:=init_eq n1
 obtain ⟨nb,hnb⟩ : ∃ b,b = decide (n1 = Cf.initS):=⟨_,rfl⟩
 rw [← hnb] at hin
 have HNB:=hid hnb
 rw [hvs] at HK0 HT1 ⊢
 have HK:=hid HK0
 have HF:=hid HF0
 have HT:=hid HT1
 have HX:=hid hX
 have hki : (k : Int) < (c.fs.length : Int):=by omega
 have hkc : (k : Int) ≤ (cap' : Int):=by omega
 obtain ⟨nfs,hnfs⟩ : ∃ n,n = c.fs.length:=⟨_,rfl⟩
 rw [← hnfs] at HK HT hki hln hkl hcap ⊢
 clear HK0 HF0 hX hx hy hbi hcl9 hhl hnb hk hvs hp hf hm9 hcl hB hH hl HT0 HT1 hnm hnfs
 by_cases h1 : er = 0
 ·subst h1
  by_cases h2 : fe = 0
  ·subst h2
   have hX2:=HX.out
   rw [if_neg (by decide),if_neg (by decide)] at hX2
   clear HX
   have hN:=HNB.out
   cases nb with
   | true =>
    rw [if_pos (.inl (of_decide_eq_true hN.symm))] at hX2
    subst hX2
    clear hN
    (go_enter Tryz.func59,Tryz.ntmps59;go_wp2_with (first|(go_at_call 114;(with_reducible refine (HK.out _ ?_).mono ?_);exact BLw;rintro e W1 ⟨rfl,hb1⟩;obtain ⟨bC,bM,hzM,B1⟩:=boxes2 hb1;(obtain ⟨q0,q1,q2,q3,q4,q5,q6,q7⟩:=bC.cells8);(obtain ⟨m0,m1,m2,m3,m4,m5,m6⟩:=bM.cells7);have BC1:=hid bC;have BM1:=hid bM;have HB1:=hid B1;have hzw1 : w.heap.size + 1 < W1.heap.size:=(by omega);have hzw0 : w.heap.size < W1.heap.size:=(by omega);clear hb1 bC bM B1)|(go_at_call 115;(with_reducible refine (HF.out _).mono ?_);rintro e W2 ⟨rfl,hb2⟩;obtain ⟨bS,hzS,B2⟩:=belows1 hb2;have bC:=BC1.out.below B2 BC1.out.sz;have bM:=BM1.out.below B2 BM1.out.sz;clear q0 q1 q2 q3 q4 q5 q6 q7 m0 m1 m2 m3 m4 m5 m6;(obtain ⟨q0,q1,q2,q3,q4,q5,q6,q7⟩:=bC.cells8);(obtain ⟨m0,m1,m2,m3,m4,m5,m6⟩:=bM.cells7);have s0:=bS.cell 0;have s1:=bS.cell 1;have s2:=bS.cell 2;simp at s0 s1 s2;have BC2:=hid bC;have BM2:=hid bM;have BS2:=hid bS;have HB2:=hid (belows HB1.out B2 HB1.out.size);have hzw2 : W1.heap.size < W2.heap.size:=(by omega);have hzw3 : w.heap.size + 1 < W2.heap.size:=(by omega);have hzw4 : w.heap.size < W2.heap.size:=(by omega);clear hb2 bC bM bS B2)))
    go_ret
    exact ⟨rfl,(by first|(have B8:=HB2.out;exact B8.alloc B8.size _)|(have B8:=HB1.out;exact B8.alloc B8.size _))⟩
   | false =>
    have hN2:=of_decide_eq_false hN.symm
    clear hN
    by_cases h3 : st = 0
    ·subst h3
     by_cases h4 : lc = 0
     ·subst h4
      by_cases h5 : cl = 0
      ·subst h5
       by_cases h6 : hl9 = 0
       ·subst h6
        rw [if_neg (by rintro (h|h);(·exact hN2 h);(·simp at h))] at hX2
        clear hN2
        have HX2:=hid hX2
        clear hX2
        cases bi with
        | true =>
         have h5 : X = 5:=by have:=HX2.out;simpa using this
         subst h5
         clear HX2
         (go_enter Tryz.func59,Tryz.ntmps59;go_wp2_with (first|(go_at_call 114;(with_reducible refine (HK.out _ ?_).mono ?_);exact BLw;rintro e W1 ⟨rfl,hb1⟩;obtain ⟨bC,bM,hzM,B1⟩:=boxes2 hb1;(obtain ⟨q0,q1,q2,q3,q4,q5,q6,q7⟩:=bC.cells8);(obtain ⟨m0,m1,m2,m3,m4,m5,m6⟩:=bM.cells7);have BC1:=hid bC;have BM1:=hid bM;have HB1:=hid B1;have hzw1 : w.heap.size + 1 < W1.heap.size:=(by omega);have hzw0 : w.heap.size < W1.heap.size:=(by omega);clear hb1 bC bM B1)|(go_at_call 115;(with_reducible refine (HF.out _).mono ?_);rintro e W2 ⟨rfl,hb2⟩;obtain ⟨bS,hzS,B2⟩:=belows1 hb2;have bC:=BC1.out.below B2 BC1.out.sz;have bM:=BM1.out.below B2 BM1.out.sz;clear q0 q1 q2 q3 q4 q5 q6 q7 m0 m1 m2 m3 m4 m5 m6;(obtain ⟨q0,q1,q2,q3,q4,q5,q6,q7⟩:=bC.cells8);(obtain ⟨m0,m1,m2,m3,m4,m5,m6⟩:=bM.cells7);have s0:=bS.cell 0;have s1:=bS.cell 1;have s2:=bS.cell 2;simp at s0 s1 s2;have BC2:=hid bC;have BM2:=hid bM;have BS2:=hid bS;have HB2:=hid (belows HB1.out B2 HB1.out.size);have hzw2 : W1.heap.size < W2.heap.size:=(by omega);have hzw3 : w.heap.size + 1 < W2.heap.size:=(by omega);have hzw4 : w.heap.size < W2.heap.size:=(by omega);clear hb2 bC bM bS B2)))
         (obtain ⟨W3,hW3⟩ : ∃ W,W = W2.alloc (.cells #[.int .i64 tk,.string ⟨tm.toArray⟩] 132):=⟨_,rfl⟩;rw [← hW3];have hB3 : Below W2.heap.size W2 W3:=(by rw [hW3];exact (Below.refl _ _).alloc (Nat.le_refl _) _);clear hW3;have B3 : Below w.heap.size w W3:=belows HB2.out hB3 HB2.out.size;have bC:=BC2.out.below hB3 BC2.out.sz;have bS:=BS2.out.below hB3 BS2.out.sz;clear q0 q1 q2 q3 q4 q5 q6 q7 s0 s1 s2;(obtain ⟨q0,q1,q2,q3,q4,q5,q6,q7⟩:=bC.cells8);have s0:=bS.cell 0;have s1:=bS.cell 1;have s2:=bS.cell 2;simp at s0 s1 s2;have HTr:=hid (fun d os=>Calls.regrown_of (d:=d) (os:=os) (w:=W3) (HT.out _ (belows B3 (below_regrown W3 d os) B3.size)));have y0:=fun d os=>cell_regrown q0 d os;have y1:=fun d os=>cell_regrown q1 d os;have y2:=fun d os=>cell_regrown q2 d os;have y3:=fun d os=>cell_regrown q3 d os;have y4:=fun d os=>cell_regrown q4 d os;have y5:=fun d os=>cell_regrown q5 d os;have y6:=fun d os=>cell_regrown q6 d os;have y7:=fun d os=>cell_regrown q7 d os;have z0:=fun d os=>cell_regrown s0 d os;have z1:=fun d os=>cell_regrown s1 d os;have z2:=fun d os=>cell_regrown s2 d os;clear bC bS q0 q1 q2 q3 q4 q5 q6 q7 s0 s1 s2 m0 m1 m2 m3 m4 m5 m6;refine wp_region_quiet_below (by kernel_rfl) (by kernel_rfl) ?_;(repeat (go_big_quiet_step (exact HTr.out _ _)));refine wpQuiet_nil ?_;intro W hw';obtain ⟨⟨dq,osq⟩,hw''⟩:=hw';have hbq:=below_regrown W3 dq osq;rw [← hw''] at hbq;clear hw'' y0 y1 y2 y3 y4 y5 y6 y7 z0 z1 z2;have BW:=belows B3 hbq B3.size;go_wp2_with fail)
         go_ret
         exact ⟨rfl,BW⟩
        | false =>
         have h5 : X = 0:=by have:=HX2.out;simpa using this
         subst h5
         clear HX2
         (go_enter Tryz.func59,Tryz.ntmps59;go_wp2_with (first|(go_at_call 114;(with_reducible refine (HK.out _ ?_).mono ?_);exact BLw;rintro e W1 ⟨rfl,hb1⟩;obtain ⟨bC,bM,hzM,B1⟩:=boxes2 hb1;(obtain ⟨q0,q1,q2,q3,q4,q5,q6,q7⟩:=bC.cells8);(obtain ⟨m0,m1,m2,m3,m4,m5,m6⟩:=bM.cells7);have BC1:=hid bC;have BM1:=hid bM;have HB1:=hid B1;have hzw1 : w.heap.size + 1 < W1.heap.size:=(by omega);have hzw0 : w.heap.size < W1.heap.size:=(by omega);clear hb1 bC bM B1)|(go_at_call 115;(with_reducible refine (HF.out _).mono ?_);rintro e W2 ⟨rfl,hb2⟩;obtain ⟨bS,hzS,B2⟩:=belows1 hb2;have bC:=BC1.out.below B2 BC1.out.sz;have bM:=BM1.out.below B2 BM1.out.sz;clear q0 q1 q2 q3 q4 q5 q6 q7 m0 m1 m2 m3 m4 m5 m6;(obtain ⟨q0,q1,q2,q3,q4,q5,q6,q7⟩:=bC.cells8);(obtain ⟨m0,m1,m2,m3,m4,m5,m6⟩:=bM.cells7);have s0:=bS.cell 0;have s1:=bS.cell 1;have s2:=bS.cell 2;simp at s0 s1 s2;have BC2:=hid bC;have BM2:=hid bM;have BS2:=hid bS;have HB2:=hid (belows HB1.out B2 HB1.out.size);have hzw2 : W1.heap.size < W2.heap.size:=(by omega);have hzw3 : w.heap.size + 1 < W2.heap.size:=(by omega);have hzw4 : w.heap.size < W2.heap.size:=(by omega);clear hb2 bC bM bS B2)))
         (obtain ⟨W3,hW3⟩ : ∃ W,W = W2.alloc (.cells #[.int .i64 tk,.string ⟨tm.toArray⟩] 132):=⟨_,rfl⟩;rw [← hW3];have hB3 : Below W2.heap.size W2 W3:=(by rw [hW3];exact (Below.refl _ _).alloc (Nat.le_refl _) _);clear hW3;have B3 : Below w.heap.size w W3:=belows HB2.out hB3 HB2.out.size;have bC:=BC2.out.below hB3 BC2.out.sz;have bS:=BS2.out.below hB3 BS2.out.sz;clear q0 q1 q2 q3 q4 q5 q6 q7 s0 s1 s2;(obtain ⟨q0,q1,q2,q3,q4,q5,q6,q7⟩:=bC.cells8);have s0:=bS.cell 0;have s1:=bS.cell 1;have s2:=bS.cell 2;simp at s0 s1 s2;have HTr:=hid (fun d os=>Calls.regrown_of (d:=d) (os:=os) (w:=W3) (HT.out _ (belows B3 (below_regrown W3 d os) B3.size)));have y0:=fun d os=>cell_regrown q0 d os;have y1:=fun d os=>cell_regrown q1 d os;have y2:=fun d os=>cell_regrown q2 d os;have y3:=fun d os=>cell_regrown q3 d os;have y4:=fun d os=>cell_regrown q4 d os;have y5:=fun d os=>cell_regrown q5 d os;have y6:=fun d os=>cell_regrown q6 d os;have y7:=fun d os=>cell_regrown q7 d os;have z0:=fun d os=>cell_regrown s0 d os;have z1:=fun d os=>cell_regrown s1 d os;have z2:=fun d os=>cell_regrown s2 d os;clear bC bS q0 q1 q2 q3 q4 q5 q6 q7 s0 s1 s2 m0 m1 m2 m3 m4 m5 m6;refine wp_region_quiet_below (by kernel_rfl) (by kernel_rfl) ?_;(repeat (go_big_quiet_step (exact HTr.out _ _)));refine wpQuiet_nil ?_;intro W hw';obtain ⟨⟨dq,osq⟩,hw''⟩:=hw';have hbq:=below_regrown W3 dq osq;rw [← hw''] at hbq;clear hw'' y0 y1 y2 y3 y4 y5 y6 y7 z0 z1 z2;have BW:=belows B3 hbq B3.size;go_wp2_with fail)
         go_ret
         exact ⟨rfl,BW⟩
       ·rw [if_pos (.inr (by simp [h6]))] at hX2
        subst hX2
        have d1 : ((hl9 : Int) != 0) = true:=by simp;omega
        clear hN2 h6
        (go_enter Tryz.func59,Tryz.ntmps59;go_wp2_with (first|(go_at_call 114;(with_reducible refine (HK.out _ ?_).mono ?_);exact BLw;rintro e W1 ⟨rfl,hb1⟩;obtain ⟨bC,bM,hzM,B1⟩:=boxes2 hb1;(obtain ⟨q0,q1,q2,q3,q4,q5,q6,q7⟩:=bC.cells8);(obtain ⟨m0,m1,m2,m3,m4,m5,m6⟩:=bM.cells7);have BC1:=hid bC;have BM1:=hid bM;have HB1:=hid B1;have hzw1 : w.heap.size + 1 < W1.heap.size:=(by omega);have hzw0 : w.heap.size < W1.heap.size:=(by omega);clear hb1 bC bM B1)|(go_at_call 115;(with_reducible refine (HF.out _).mono ?_);rintro e W2 ⟨rfl,hb2⟩;obtain ⟨bS,hzS,B2⟩:=belows1 hb2;have bC:=BC1.out.below B2 BC1.out.sz;have bM:=BM1.out.below B2 BM1.out.sz;clear q0 q1 q2 q3 q4 q5 q6 q7 m0 m1 m2 m3 m4 m5 m6;(obtain ⟨q0,q1,q2,q3,q4,q5,q6,q7⟩:=bC.cells8);(obtain ⟨m0,m1,m2,m3,m4,m5,m6⟩:=bM.cells7);have s0:=bS.cell 0;have s1:=bS.cell 1;have s2:=bS.cell 2;simp at s0 s1 s2;have BC2:=hid bC;have BM2:=hid bM;have BS2:=hid bS;have HB2:=hid (belows HB1.out B2 HB1.out.size);have hzw2 : W1.heap.size < W2.heap.size:=(by omega);have hzw3 : w.heap.size + 1 < W2.heap.size:=(by omega);have hzw4 : w.heap.size < W2.heap.size:=(by omega);clear hb2 bC bM bS B2)))
        go_ret
        exact ⟨rfl,(by first|(have B8:=HB2.out;exact B8.alloc B8.size _)|(have B8:=HB1.out;exact B8.alloc B8.size _))⟩
      ·rw [if_pos (.inr (by simp [h5]))] at hX2
       subst hX2
       have d1 : ((cl : Int) != 0) = true:=by simp;omega
       clear hN2 h5
       (go_enter Tryz.func59,Tryz.ntmps59;go_wp2_with (first|(go_at_call 114;(with_reducible refine (HK.out _ ?_).mono ?_);exact BLw;rintro e W1 ⟨rfl,hb1⟩;obtain ⟨bC,bM,hzM,B1⟩:=boxes2 hb1;(obtain ⟨q0,q1,q2,q3,q4,q5,q6,q7⟩:=bC.cells8);(obtain ⟨m0,m1,m2,m3,m4,m5,m6⟩:=bM.cells7);have BC1:=hid bC;have BM1:=hid bM;have HB1:=hid B1;have hzw1 : w.heap.size + 1 < W1.heap.size:=(by omega);have hzw0 : w.heap.size < W1.heap.size:=(by omega);clear hb1 bC bM B1)|(go_at_call 115;(with_reducible refine (HF.out _).mono ?_);rintro e W2 ⟨rfl,hb2⟩;obtain ⟨bS,hzS,B2⟩:=belows1 hb2;have bC:=BC1.out.below B2 BC1.out.sz;have bM:=BM1.out.below B2 BM1.out.sz;clear q0 q1 q2 q3 q4 q5 q6 q7 m0 m1 m2 m3 m4 m5 m6;(obtain ⟨q0,q1,q2,q3,q4,q5,q6,q7⟩:=bC.cells8);(obtain ⟨m0,m1,m2,m3,m4,m5,m6⟩:=bM.cells7);have s0:=bS.cell 0;have s1:=bS.cell 1;have s2:=bS.cell 2;simp at s0 s1 s2;have BC2:=hid bC;have BM2:=hid bM;have BS2:=hid bS;have HB2:=hid (belows HB1.out B2 HB1.out.size);have hzw2 : W1.heap.size < W2.heap.size:=(by omega);have hzw3 : w.heap.size + 1 < W2.heap.size:=(by omega);have hzw4 : w.heap.size < W2.heap.size:=(by omega);clear hb2 bC bM bS B2)))
       go_ret
       exact ⟨rfl,(by first|(have B8:=HB2.out;exact B8.alloc B8.size _)|(have B8:=HB1.out;exact B8.alloc B8.size _))⟩
     ·rw [if_pos (.inr (by simp [h4]))] at hX2
      subst hX2
      have d1 : (lc != 0) = true:=by simpa using h4
      clear hN2 h4
      (go_enter Tryz.func59,Tryz.ntmps59;go_wp2_with (first|(go_at_call 114;(with_reducible refine (HK.out _ ?_).mono ?_);exact BLw;rintro e W1 ⟨rfl,hb1⟩;obtain ⟨bC,bM,hzM,B1⟩:=boxes2 hb1;(obtain ⟨q0,q1,q2,q3,q4,q5,q6,q7⟩:=bC.cells8);(obtain ⟨m0,m1,m2,m3,m4,m5,m6⟩:=bM.cells7);have BC1:=hid bC;have BM1:=hid bM;have HB1:=hid B1;have hzw1 : w.heap.size + 1 < W1.heap.size:=(by omega);have hzw0 : w.heap.size < W1.heap.size:=(by omega);clear hb1 bC bM B1)|(go_at_call 115;(with_reducible refine (HF.out _).mono ?_);rintro e W2 ⟨rfl,hb2⟩;obtain ⟨bS,hzS,B2⟩:=belows1 hb2;have bC:=BC1.out.below B2 BC1.out.sz;have bM:=BM1.out.below B2 BM1.out.sz;clear q0 q1 q2 q3 q4 q5 q6 q7 m0 m1 m2 m3 m4 m5 m6;(obtain ⟨q0,q1,q2,q3,q4,q5,q6,q7⟩:=bC.cells8);(obtain ⟨m0,m1,m2,m3,m4,m5,m6⟩:=bM.cells7);have s0:=bS.cell 0;have s1:=bS.cell 1;have s2:=bS.cell 2;simp at s0 s1 s2;have BC2:=hid bC;have BM2:=hid bM;have BS2:=hid bS;have HB2:=hid (belows HB1.out B2 HB1.out.size);have hzw2 : W1.heap.size < W2.heap.size:=(by omega);have hzw3 : w.heap.size + 1 < W2.heap.size:=(by omega);have hzw4 : w.heap.size < W2.heap.size:=(by omega);clear hb2 bC bM bS B2)))
      go_ret
      exact ⟨rfl,(by first|(have B8:=HB2.out;exact B8.alloc B8.size _)|(have B8:=HB1.out;exact B8.alloc B8.size _))⟩
    ·rw [if_pos (.inr (by simp [h3]))] at hX2
     subst hX2
     have d1 : (st != 0) = true:=by simpa using h3
     clear hN2 h3
     (go_enter Tryz.func59,Tryz.ntmps59;go_wp2_with (first|(go_at_call 114;(with_reducible refine (HK.out _ ?_).mono ?_);exact BLw;rintro e W1 ⟨rfl,hb1⟩;obtain ⟨bC,bM,hzM,B1⟩:=boxes2 hb1;(obtain ⟨q0,q1,q2,q3,q4,q5,q6,q7⟩:=bC.cells8);(obtain ⟨m0,m1,m2,m3,m4,m5,m6⟩:=bM.cells7);have BC1:=hid bC;have BM1:=hid bM;have HB1:=hid B1;have hzw1 : w.heap.size + 1 < W1.heap.size:=(by omega);have hzw0 : w.heap.size < W1.heap.size:=(by omega);clear hb1 bC bM B1)|(go_at_call 115;(with_reducible refine (HF.out _).mono ?_);rintro e W2 ⟨rfl,hb2⟩;obtain ⟨bS,hzS,B2⟩:=belows1 hb2;have bC:=BC1.out.below B2 BC1.out.sz;have bM:=BM1.out.below B2 BM1.out.sz;clear q0 q1 q2 q3 q4 q5 q6 q7 m0 m1 m2 m3 m4 m5 m6;(obtain ⟨q0,q1,q2,q3,q4,q5,q6,q7⟩:=bC.cells8);(obtain ⟨m0,m1,m2,m3,m4,m5,m6⟩:=bM.cells7);have s0:=bS.cell 0;have s1:=bS.cell 1;have s2:=bS.cell 2;simp at s0 s1 s2;have BC2:=hid bC;have BM2:=hid bM;have BS2:=hid bS;have HB2:=hid (belows HB1.out B2 HB1.out.size);have hzw2 : W1.heap.size < W2.heap.size:=(by omega);have hzw3 : w.heap.size + 1 < W2.heap.size:=(by omega);have hzw4 : w.heap.size < W2.heap.size:=(by omega);clear hb2 bC bM bS B2)))
     go_ret
     exact ⟨rfl,(by first|(have B8:=HB2.out;exact B8.alloc B8.size _)|(have B8:=HB1.out;exact B8.alloc B8.size _))⟩
  ·have hX2:=HX.out
   rw [if_neg (by decide),if_pos h2] at hX2
   subst hX2
   have hd : (X != 0) = true:=by simpa using h2
   clear HX h2
   (go_enter Tryz.func59,Tryz.ntmps59;go_wp2_with (first|(go_at_call 114;(with_reducible refine (HK.out _ ?_).mono ?_);exact BLw;rintro e W1 ⟨rfl,hb1⟩;obtain ⟨bC,bM,hzM,B1⟩:=boxes2 hb1;(obtain ⟨q0,q1,q2,q3,q4,q5,q6,q7⟩:=bC.cells8);(obtain ⟨m0,m1,m2,m3,m4,m5,m6⟩:=bM.cells7);have BC1:=hid bC;have BM1:=hid bM;have HB1:=hid B1;have hzw1 : w.heap.size + 1 < W1.heap.size:=(by omega);have hzw0 : w.heap.size < W1.heap.size:=(by omega);clear hb1 bC bM B1)|(go_at_call 115;(with_reducible refine (HF.out _).mono ?_);rintro e W2 ⟨rfl,hb2⟩;obtain ⟨bS,hzS,B2⟩:=belows1 hb2;have bC:=BC1.out.below B2 BC1.out.sz;have bM:=BM1.out.below B2 BM1.out.sz;clear q0 q1 q2 q3 q4 q5 q6 q7 m0 m1 m2 m3 m4 m5 m6;(obtain ⟨q0,q1,q2,q3,q4,q5,q6,q7⟩:=bC.cells8);(obtain ⟨m0,m1,m2,m3,m4,m5,m6⟩:=bM.cells7);have s0:=bS.cell 0;have s1:=bS.cell 1;have s2:=bS.cell 2;simp at s0 s1 s2;have BC2:=hid bC;have BM2:=hid bM;have BS2:=hid bS;have HB2:=hid (belows HB1.out B2 HB1.out.size);have hzw2 : W1.heap.size < W2.heap.size:=(by omega);have hzw3 : w.heap.size + 1 < W2.heap.size:=(by omega);have hzw4 : w.heap.size < W2.heap.size:=(by omega);clear hb2 bC bM bS B2)))
   go_ret
   exact ⟨rfl,(by first|(have B8:=HB2.out;exact B8.alloc B8.size _)|(have B8:=HB1.out;exact B8.alloc B8.size _))⟩
 ·have hX2:=HX.out
  rw [if_pos h1] at hX2
  subst hX2
  have hd : (X != 0) = true:=by simpa using h1
  clear HX h1
  (go_enter Tryz.func59,Tryz.ntmps59;go_wp2_with (first|(go_at_call 114;(with_reducible refine (HK.out _ ?_).mono ?_);exact BLw;rintro e W1 ⟨rfl,hb1⟩;obtain ⟨bC,bM,hzM,B1⟩:=boxes2 hb1;(obtain ⟨q0,q1,q2,q3,q4,q5,q6,q7⟩:=bC.cells8);(obtain ⟨m0,m1,m2,m3,m4,m5,m6⟩:=bM.cells7);have BC1:=hid bC;have BM1:=hid bM;have HB1:=hid B1;have hzw1 : w.heap.size + 1 < W1.heap.size:=(by omega);have hzw0 : w.heap.size < W1.heap.size:=(by omega);clear hb1 bC bM B1)|(go_at_call 115;(with_reducible refine (HF.out _).mono ?_);rintro e W2 ⟨rfl,hb2⟩;obtain ⟨bS,hzS,B2⟩:=belows1 hb2;have bC:=BC1.out.below B2 BC1.out.sz;have bM:=BM1.out.below B2 BM1.out.sz;clear q0 q1 q2 q3 q4 q5 q6 q7 m0 m1 m2 m3 m4 m5 m6;(obtain ⟨q0,q1,q2,q3,q4,q5,q6,q7⟩:=bC.cells8);(obtain ⟨m0,m1,m2,m3,m4,m5,m6⟩:=bM.cells7);have s0:=bS.cell 0;have s1:=bS.cell 1;have s2:=bS.cell 2;simp at s0 s1 s2;have BC2:=hid bC;have BM2:=hid bM;have BS2:=hid bS;have HB2:=hid (belows HB1.out B2 HB1.out.size);have hzw2 : W1.heap.size < W2.heap.size:=(by omega);have hzw3 : w.heap.size + 1 < W2.heap.size:=(by omega);have hzw4 : w.heap.size < W2.heap.size:=(by omega);clear hb2 bC bM bS B2)))
  go_ret
  exact ⟨rfl,(by first|(have B8:=HB2.out;exact B8.alloc B8.size _)|(have B8:=HB1.out;exact B8.alloc B8.size _))⟩
end Go.Proofs.YtigbaagienjboaaGreatDoor
