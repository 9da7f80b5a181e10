/- Own texts for the claim, part 22. -/
import Derived.Test.YtnojgiflgmnjlaaGreatDoorZD21
import Derived.Lib.QuietBelow
set_option maxRecDepth 100000
namespace Go.Proofs.YtnojgiflgmnjlaaGreatDoor
open Go.RowKit
theorem ahead_take (P : List L3.Cp.C) (ms : List Cf.Mb) (k : Nat) (h : k ≤ ms.length) : Cf.ahead P (ms.take k) (ms.take k).length = Cf.ahead P ms k:=by
 unfold Cf.ahead
 rw [List.take_length]
theorem MsC.take {w : World} : ∀ {rs : List (List Value)} {ms : List Cf.Mb} (k : Nat),MsC w rs ms → MsC w (rs.take k) (ms.take k)
 | _,_,0,_=>by simp [MsC]
 | [],[],_ + 1,_=>by simp [MsC]
 | _ :: _,_ :: _,k + 1,h=>⟨h.1,MsC.take k h.2⟩
 | [],_ :: _,_,h=>h.elim
 | _ :: _,[],_,h=>h.elim
theorem flat_take7 : ∀ {rs : List (List Value)} (k : Nat),(∀ r ∈ rs,r.length = 7) → (rs.take k).flatten = rs.flatten.take (k * 7)
 | _,0,_=>by simp
 | [],_ + 1,_=>by simp
 | r :: rs,k + 1,h=>by
  have h1:=h r (by simp)
  rw [List.take_succ_cons,List.flatten_cons,List.flatten_cons,flat_take7 k (fun x hx=>h x (by simp [hx])),show (k + 1) * 7 = r.length + k * 7 by omega,List.take_length_add_append]
theorem MsC.lens {w : World} : ∀ {rs : List (List Value)} {ms : List Cf.Mb},MsC w rs ms → ∀ r ∈ rs,r.length = 7
 | [],_,_,r,hr=>by cases hr
 | x :: rs,m :: ms,h,r,hr=>by
  rcases List.mem_cons.1 hr with rfl|hr
  ·exact h.1.len
  ·exact MsC.lens h.2 r hr
 | _ :: _,[],h,_,_=>h.elim
theorem MsR.take {w : World} {a : Option Addr} {n cap : Nat} {ms : List Cf.Mb} (h : MsR w (.slice a n cap) ms) {k : Nat} (hk : k ≤ ms.length) : MsR w (.slice a k cap) (ms.take k):=by
 obtain ⟨rs,h1,h2⟩:=h
 refine ⟨rs.take k,h1.take k,?_⟩
 have hl : (ms.take k).length = k:=by rw [List.length_take];omega
 rw [hl,flat_take7 k h1.lens]
 refine ⟨by rw [List.length_take,h2.1];omega,by have:=h2.2.1;omega,?_⟩
 rcases h2.2.2 with ⟨h0,a',cap',hv⟩|⟨b,o,cap',hv,hc,hb,hx⟩
 ·obtain ⟨rfl,-,rfl⟩:=Value.slice.inj hv
  exact .inl ⟨by omega,a,cap,by rw [show k = 0 by omega]⟩
 ·obtain ⟨rfl,-,rfl⟩:=Value.slice.inj hv
  by_cases h0 : k = 0
  ·exact .inl ⟨h0,_,cap,by rw [h0]⟩
  ·exact .inr ⟨b,o,cap,rfl,by omega,hb,fun i u hi=>hx i u (by
    rw [List.getElem?_take] at hi
    split at hi
    ·exact hi
    ·cases hi)⟩
set_option maxHeartbeats 4000000 in
theorem rfieldAt_any (c : Cf.Cl) (vs : Array Value) (k : Nat) (m : Cf.Mb) (w : World) (h : ClR w vs c) (hk : c.fs[k]? = some m) :
  Calls Tryz.prog 59 #[.agg vs,.int .i64 (k : Nat)] w fun e w'=>e = .returned (.int .i64 (Cf.fdE c.pool (Cf.ahead c.pool c.fs k) m)) ∧ Below w.heap.size w w':=by
 have hkl : k < c.fs.length:=(List.getElem?_eq_some_iff.1 hk).1
 obtain ⟨pv,fv,mv,hvs,hp,hf,hm9⟩:=h
 have hcl : ClR w vs c:=⟨pv,fv,mv,hvs,hp,hf,hm9⟩
 obtain ⟨b,o,cap',cv,hw,rfl,hbb,hB,hH,hl,c0,c1,c2,c3,c4,c5,c6⟩:=hf.at hk
 obtain ⟨pa,pc,rfl⟩:=hp.len
 obtain ⟨ma,mc,rfl⟩:=hm9.len
 obtain ⟨xa,xc,rfl⟩:=hB.len
 obtain ⟨ya,yc,rfl⟩:=hH.len
 have HK0:=fun W (q : Below w.heap.size w W)=>rnamed_any c vs m (.slice xa m.code.length xc) (.slice ya m.hs.length yc) W (hcl.below q (Nat.le_refl _))
 have hcap : c.fs.length ≤ cap':=by
  obtain ⟨rs,-,h2⟩:=hf
  rcases h2.2.2 with ⟨h0,-⟩|⟨b',o',cap2,hv,hc,-⟩
  ·omega
  ·obtain ⟨-,-,rfl⟩:=Value.slice.inj hv
   exact hc
 have HT0:=fun n W (q : Below w.heap.size w W)=>rtwice_any c vs (c.fs.take k) (.slice (some ⟨b,o,none⟩) k cap') n W (hcl.below q (Nat.le_refl _)) ((hf.take (Nat.le_of_lt hkl)).below q (Nat.le_refl _))
 rw [ahead_take _ _ _ (Nat.le_of_lt hkl)] at HT0
 have hln:=hf.size
 obtain ⟨X,hX⟩ : ∃ X,X = Cf.fdE c.pool (Cf.ahead c.pool c.fs k) m:=⟨_,rfl⟩
 rw [← hX]
 unfold Cf.fdE Cf.plainM at hX
 have hnm:=@nm_mb c.pool m
 obtain ⟨bi,hbi⟩ : ∃ b,b = Cf.inB (Cf.nmO c.pool m).1 (Cf.ahead c.pool c.fs k):=⟨_,rfl⟩
 have HT1:=HT0 (Cf.nmO c.pool m).1
 rw [← hbi] at hX HT1
 obtain ⟨⟨⟨n1,n2⟩,er⟩,hx⟩ : ∃ x,x = Cf.nmO c.pool m:=⟨_,rfl⟩
 rw [← hx] at HK0 hX HT1
 dsimp only at HK0 hX HT1
 have HF0:=fun W=>L2.rfield_any n2 W
 unfold L2.FdPost at HF0
 obtain ⟨⟨⟨tk,tm⟩,fe⟩,hy⟩ : ∃ y,y = L2.fdOut (L2.Ds.bl n2):=⟨_,rfl⟩
 rw [← hy] at HF0 hX
 unfold L2.tyV at HF0
 unfold ndV at HK0 HT1
 obtain ⟨ac,nm,ds,st,lc,co,hs9⟩:=m
 dsimp only at HF0 hX
 unfold mbV at HK0
 dsimp only at HK0 c0 c1 c2 c3 c4 c5 c6
 obtain ⟨cl,hcl9⟩ : ∃ n,n = co.length:=⟨_,rfl⟩
 obtain ⟨hl9,hhl⟩ : ∃ n,n = hs9.length:=⟨_,rfl⟩
 rw [← hcl9] at HK0 hX c5
 rw [← hhl] at HK0 hX c6
 have hin:=init_eq n1
 obtain ⟨nb,hnb⟩ : ∃ b,b = decide (n1 = Cf.initS):=⟨_,rfl⟩
 rw [← hnb] at hin
 have HNB:=hid hnb
 rw [hvs] at HK0 HT1 ⊢
 have HK:=hid HK0
 have HF:=hid HF0
 have HT:=hid HT1
 have HX:=hid hX
 have hki : (k : Int) < (c.fs.length : Int):=by omega
 have hkc : (k : Int) ≤ (cap' : Int):=by omega
 obtain ⟨nfs,hnfs⟩ : ∃ n,n = c.fs.length:=⟨_,rfl⟩
 rw [← hnfs] at HK HT hki hln hkl hcap ⊢
 clear HK0 HF0 hX hx hy hbi hcl9 hhl hnb hk hvs hp hf hm9 hcl hB hH hl HT0 HT1 hnm hnfs
 by_cases h1 : er = 0
 focus
  subst h1
  by_cases h2 : fe = 0
  focus
   subst h2
   have hX2:=HX.out
   rw [if_neg (by decide),if_neg (by decide)] at hX2
   clear HX
   have hN:=HNB.out
   cases nb
   focus
    have hN2:=of_decide_eq_false hN.symm
    clear hN
    by_cases h3 : st = 0
    focus
     subst h3
     by_cases h4 : lc = 0
     focus
      subst h4
      by_cases h5 : cl = 0
      focus
       subst h5
       by_cases h6 : hl9 = 0
       focus
        subst h6
        rw [if_neg (by rintro (h|h);(·exact hN2 h);(·simp at h))] at hX2
        clear hN2
        have HX2:=hid hX2
        clear hX2
        cases bi
        focus
         have h5 : X = 0:=by have:=HX2.out;simpa using this
         subst h5
         clear HX2
         have HL1:=hid True.intro
        rotate_left 1
        focus
         have h5 : X = 5:=by have:=HX2.out;simpa using this
         subst h5
         clear HX2
         have HL2:=hid True.intro
       rotate_left 2
       focus
        rw [if_pos (.inr (by simp [h6]))] at hX2
        subst hX2
        have d1 : ((hl9 : Int) != 0) = true:=by simp;omega
        clear hN2 h6
        have HL3:=hid True.intro
      rotate_left 3
      focus
       rw [if_pos (.inr (by simp [h5]))] at hX2
       subst hX2
       have d1 : ((cl : Int) != 0) = true:=by simp;omega
       clear hN2 h5
       have HL4:=hid True.intro
     rotate_left 4
     focus
      rw [if_pos (.inr (by simp [h4]))] at hX2
      subst hX2
      have d1 : (lc != 0) = true:=by simpa using h4
      clear hN2 h4
      have HL5:=hid True.intro
    rotate_left 5
    focus
     rw [if_pos (.inr (by simp [h3]))] at hX2
     subst hX2
     have d1 : (st != 0) = true:=by simpa using h3
     clear hN2 h3
     have HL6:=hid True.intro
   rotate_left 6
   focus
    rw [if_pos (.inl (of_decide_eq_true hN.symm))] at hX2
    subst hX2
    clear hN
    have HL7:=hid True.intro
  rotate_left 7
  focus
   have hX2:=HX.out
   rw [if_neg (by decide),if_pos h2] at hX2
   subst hX2
   have hd : (X != 0) = true:=by simpa using h2
   clear HX h2
   have HL8:=hid True.intro
 rotate_left 8
 focus
  have hX2:=HX.out
  rw [if_pos h1] at hX2
  subst hX2
  have hd : (X != 0) = true:=by simpa using h1
  clear HX h1
  have HL9:=hid True.intro
 all_goals
  (go_enter Tryz.func59,Tryz.ntmps59;go_wp2_with (first|(go_at_call 114;(with_reducible refine (HK.out _ ?_).mono ?_);exact BLw;rintro e W1 ⟨rfl,hb1⟩;obtain ⟨bC,bM,hzM,B1⟩:=boxes2 hb1;(obtain ⟨q0,q1,q2,q3,q4,q5,q6,q7⟩:=bC.cells8);(obtain ⟨m0,m1,m2,m3,m4,m5,m6⟩:=bM.cells7);have BC1:=hid bC;have BM1:=hid bM;have HB1:=hid B1;have hzw1 : w.heap.size + 1 < W1.heap.size:=(by omega);have hzw0 : w.heap.size < W1.heap.size:=(by omega);clear hb1 bC bM B1)|(go_at_call 115;(with_reducible refine (HF.out _).mono ?_);rintro e W2 ⟨rfl,hb2⟩;obtain ⟨bS,hzS,B2⟩:=belows1 hb2;have bC:=BC1.out.below B2 BC1.out.sz;have bM:=BM1.out.below B2 BM1.out.sz;clear q0 q1 q2 q3 q4 q5 q6 q7 m0 m1 m2 m3 m4 m5 m6;(obtain ⟨q0,q1,q2,q3,q4,q5,q6,q7⟩:=bC.cells8);(obtain ⟨m0,m1,m2,m3,m4,m5,m6⟩:=bM.cells7);have s0:=bS.cell 0;have s1:=bS.cell 1;have s2:=bS.cell 2;simp at s0 s1 s2;have BC2:=hid bC;have BM2:=hid bM;have BS2:=hid bS;have HB2:=hid (belows HB1.out B2 HB1.out.size);have hzw2 : W1.heap.size < W2.heap.size:=(by omega);have hzw3 : w.heap.size + 1 < W2.heap.size:=(by omega);have hzw4 : w.heap.size < W2.heap.size:=(by omega);clear hb2 bC bM bS B2)))
  (first
   | (have _g:=HL1;(obtain ⟨W3,hW3⟩ : ∃ W,W = W2.alloc (.cells #[.int .i64 tk,.string ⟨tm.toArray⟩] 132):=⟨_,rfl⟩;rw [← hW3];have hB3 : Below W2.heap.size W2 W3:=(by rw [hW3];exact (Below.refl _ _).alloc (Nat.le_refl _) _);clear hW3;have B3 : Below w.heap.size w W3:=belows HB2.out hB3 HB2.out.size;have bC:=BC2.out.below hB3 BC2.out.sz;have bS:=BS2.out.below hB3 BS2.out.sz;clear q0 q1 q2 q3 q4 q5 q6 q7 s0 s1 s2;(obtain ⟨q0,q1,q2,q3,q4,q5,q6,q7⟩:=bC.cells8);have s0:=bS.cell 0;have s1:=bS.cell 1;have s2:=bS.cell 2;simp at s0 s1 s2;have HTr:=hid (fun d os=>Calls.regrown_of (d:=d) (os:=os) (w:=W3) (HT.out _ (belows B3 (below_regrown W3 d os) B3.size)));have y0:=fun d os=>cell_regrown q0 d os;have y1:=fun d os=>cell_regrown q1 d os;have y2:=fun d os=>cell_regrown q2 d os;have y3:=fun d os=>cell_regrown q3 d os;have y4:=fun d os=>cell_regrown q4 d os;have y5:=fun d os=>cell_regrown q5 d os;have y6:=fun d os=>cell_regrown q6 d os;have y7:=fun d os=>cell_regrown q7 d os;have z0:=fun d os=>cell_regrown s0 d os;have z1:=fun d os=>cell_regrown s1 d os;have z2:=fun d os=>cell_regrown s2 d os;clear bC bS q0 q1 q2 q3 q4 q5 q6 q7 s0 s1 s2 m0 m1 m2 m3 m4 m5 m6;refine wp_region_quiet_below (by kernel_rfl) (by kernel_rfl) ?_;(repeat (go_big_quiet_step (exact HTr.out _ _)));refine wpQuiet_nil ?_;intro W hw';obtain ⟨⟨dq,osq⟩,hw''⟩:=hw';have hbq:=below_regrown W3 dq osq;rw [← hw''] at hbq;clear hw'' y0 y1 y2 y3 y4 y5 y6 y7 z0 z1 z2;have BW:=belows B3 hbq B3.size;go_wp2_with fail);go_ret;exact ⟨rfl,BW⟩)
   | (have _g:=HL2;(obtain ⟨W3,hW3⟩ : ∃ W,W = W2.alloc (.cells #[.int .i64 tk,.string ⟨tm.toArray⟩] 132):=⟨_,rfl⟩;rw [← hW3];have hB3 : Below W2.heap.size W2 W3:=(by rw [hW3];exact (Below.refl _ _).alloc (Nat.le_refl _) _);clear hW3;have B3 : Below w.heap.size w W3:=belows HB2.out hB3 HB2.out.size;have bC:=BC2.out.below hB3 BC2.out.sz;have bS:=BS2.out.below hB3 BS2.out.sz;clear q0 q1 q2 q3 q4 q5 q6 q7 s0 s1 s2;(obtain ⟨q0,q1,q2,q3,q4,q5,q6,q7⟩:=bC.cells8);have s0:=bS.cell 0;have s1:=bS.cell 1;have s2:=bS.cell 2;simp at s0 s1 s2;have HTr:=hid (fun d os=>Calls.regrown_of (d:=d) (os:=os) (w:=W3) (HT.out _ (belows B3 (below_regrown W3 d os) B3.size)));have y0:=fun d os=>cell_regrown q0 d os;have y1:=fun d os=>cell_regrown q1 d os;have y2:=fun d os=>cell_regrown q2 d os;have y3:=fun d os=>cell_regrown q3 d os;have y4:=fun d os=>cell_regrown q4 d os;have y5:=fun d os=>cell_regrown q5 d os;have y6:=fun d os=>cell_regrown q6 d os;have y7:=fun d os=>cell_regrown q7 d os;have z0:=fun d os=>cell_regrown s0 d os;have z1:=fun d os=>cell_regrown s1 d os;have z2:=fun d os=>cell_regrown s2 d os;clear bC bS q0 q1 q2 q3 q4 q5 q6 q7 s0 s1 s2 m0 m1 m2 m3 m4 m5 m6;refine wp_region_quiet_below (by kernel_rfl) (by kernel_rfl) ?_;(repeat (go_big_quiet_step (exact HTr.out _ _)));refine wpQuiet_nil ?_;intro W hw';obtain ⟨⟨dq,osq⟩,hw''⟩:=hw';have hbq:=below_regrown W3 dq osq;rw [← hw''] at hbq;clear hw'' y0 y1 y2 y3 y4 y5 y6 y7 z0 z1 z2;have BW:=belows B3 hbq B3.size;go_wp2_with fail);go_ret;exact ⟨rfl,BW⟩)
   | (have _g:=HL3;go_ret;exact ⟨rfl,(by first|(have B8:=HB2.out;exact B8.alloc B8.size _)|(have B8:=HB1.out;exact B8.alloc B8.size _))⟩)
   | (have _g:=HL4;go_ret;exact ⟨rfl,(by first|(have B8:=HB2.out;exact B8.alloc B8.size _)|(have B8:=HB1.out;exact B8.alloc B8.size _))⟩)
   | (have _g:=HL5;go_ret;exact ⟨rfl,(by first|(have B8:=HB2.out;exact B8.alloc B8.size _)|(have B8:=HB1.out;exact B8.alloc B8.size _))⟩)
   | (have _g:=HL6;go_ret;exact ⟨rfl,(by first|(have B8:=HB2.out;exact B8.alloc B8.size _)|(have B8:=HB1.out;exact B8.alloc B8.size _))⟩)
   | (have _g:=HL7;go_ret;exact ⟨rfl,(by first|(have B8:=HB2.out;exact B8.alloc B8.size _)|(have B8:=HB1.out;exact B8.alloc B8.size _))⟩)
   | (have _g:=HL8;go_ret;exact ⟨rfl,(by first|(have B8:=HB2.out;exact B8.alloc B8.size _)|(have B8:=HB1.out;exact B8.alloc B8.size _))⟩)
   | (have _g:=HL9;go_ret;exact ⟨rfl,(by first|(have B8:=HB2.out;exact B8.alloc B8.size _)|(have B8:=HB1.out;exact B8.alloc B8.size _))⟩))
end Go.Proofs.YtnojgiflgmnjlaaGreatDoor
namespace Go.Proofs.YtnojgiflgmnjlaaGreatDoor
open Go.RowKit
namespace L2
theorem rd_kind : ∀ {l : List UInt8} {k : Int} {m : List UInt8} {n : Nat},Ds.rd l = some (k,m,n) → k ≠ 0
 | [],_,_,_,h=>by cases h
 | c :: l,k,m,n,h=>by
  unfold Ds.rd at h
  split at h
  ·simp only [Option.some.injEq,Prod.mk.injEq] at h
   omega
  ·split at h
   ·simp only [Option.some.injEq,Prod.mk.injEq] at h
    omega
   ·split at h
    ·cases hr : Ds.rd l with
     | none=>rw [hr] at h;cases h
     | some x =>
      obtain ⟨k',m',n'⟩:=x
      rw [hr] at h
      simp only [Option.some.injEq,Prod.mk.injEq] at h
      omega
    ·split at h
     ·cases hr : Ds.cutC 59 l with
      | none=>rw [hr] at h;cases h
      | some x =>
       obtain ⟨a,b⟩:=x
       rw [hr] at h
       dsimp only at h
       split at h
       ·simp only [Option.some.injEq,Prod.mk.injEq] at h
        omega
       ·cases h
     ·cases h
theorem retF_kind {l : List UInt8} {k : Int} {m s : List UInt8} (h : Ds.retF l = some ((k,m),s)) (hk : k = 0) : m = []:=by
 cases l with
 | nil=>cases h
 | cons c l =>
  simp only [Ds.retF] at h
  split at h
  ·simp only [Option.some.injEq,Prod.mk.injEq] at h
   exact h.1.2.symm
  ·cases hr : Ds.rd (c :: l) with
   | none=>rw [hr] at h;cases h
   | some x =>
    obtain ⟨k',m',n'⟩:=x
    rw [hr] at h
    simp only [Option.some.injEq,Prod.mk.injEq] at h
    obtain ⟨⟨rfl,-⟩,-⟩:=h
    exact absurd hk (rd_kind hr)
theorem mdOut_kind {l : List UInt8} {a : List Ds.Ty} {k : Int} {m : List UInt8} {er : Int} (h : mdOut l = (a,(k,m),er)) (hk : k = 0) : m = []:=by
 unfold mdOut at h
 split at h
 ·simp only [Prod.mk.injEq] at h
  exact h.2.1.2.symm
 ·split at h
  ·rename_i x xs y hm
   simp only [Prod.mk.injEq] at h
   obtain ⟨-,rfl,-⟩:=h
   cases l with
   | nil=>cases hm
   | cons c l =>
    simp only [Ds.md] at hm
    split at hm
    ·unfold Ds.mdA at hm
     split at hm
     ·cases hm
     ·unfold Ds.retM at hm
      split at hm
      ·cases hm
      ·rename_i hr
       simp only [Option.some.injEq,Prod.mk.injEq] at hm
       obtain ⟨-,rfl,-⟩:=hm
       exact retF_kind hr hk
    ·cases hm
  ·simp only [Prod.mk.injEq] at h
   exact h.2.1.2.symm
end L2
set_option maxHeartbeats 8000000 in
theorem rmethodAt_any (c : Cf.Cl) (vs : Array Value) (k : Nat) (m : Cf.Mb) (w : World) (h : ClR w vs c) (hk : c.ms[k]? = some m) :
  Calls Tryz.prog 60 #[.agg vs,.int .i64 (k : Nat)] w fun e w'=>∃ er,Cf.meIs c.pool (Cf.ahead c.pool c.ms k) m er ∧ e = .returned (.int .i64 er) ∧ Below w.heap.size w w':=by
 have hkl : k < c.ms.length:=(List.getElem?_eq_some_iff.1 hk).1
 obtain ⟨pv,fv,mv,hvs,hp,hf,hm9⟩:=h
 have hcl : ClR w vs c:=⟨pv,fv,mv,hvs,hp,hf,hm9⟩
 obtain ⟨b,o,cap',cv,hw,rfl,hbb,hB,hH,hl,c0,c1,c2,c3,c4,c5,c6⟩:=hm9.at hk
 obtain ⟨pa,pc,rfl⟩:=hp.len
 obtain ⟨fa,fc,rfl⟩:=hf.len
 have HCo0:=fun W (q : Below w.heap.size w W)=>rcode_any c vs m cv hw W (hcl.below q (Nat.le_refl _)) ((hB.below q (Nat.le_refl _)).mono q.size) (hH.below q (Nat.le_refl _)) hl
 obtain ⟨xa,xc,rfl⟩:=hB.len
 obtain ⟨ya,yc,rfl⟩:=hH.len
 have HK0:=fun W (q : Below w.heap.size w W)=>rnamed_any c vs m (.slice xa m.code.length xc) (.slice ya m.hs.length yc) W (hcl.below q (Nat.le_refl _))
 have hcap : c.ms.length ≤ cap':=by
  obtain ⟨rs,-,h2⟩:=hm9
  rcases h2.2.2 with ⟨h0,-⟩|⟨b',o',cap2,hv,hc,-⟩
  ·omega
  ·obtain ⟨-,-,rfl⟩:=Value.slice.inj hv
   exact hc
 have HT0:=fun n W (q : Below w.heap.size w W)=>rtwice_any c vs (c.ms.take k) (.slice (some ⟨b,o,none⟩) k cap') n W (hcl.below q (Nat.le_refl _)) ((hm9.take (Nat.le_of_lt hkl)).below q (Nat.le_refl _))
 rw [ahead_take _ _ _ (Nat.le_of_lt hkl)] at HT0
 have hln:=hm9.size
 have hr : ∀ er,Cf.meIs c.pool (Cf.ahead c.pool c.ms k) m er → Cf.meIs c.pool (Cf.ahead c.pool c.ms k) m er:=fun er h=>h
 obtain ⟨R,hR⟩ : ∃ R,R = Cf.meIs c.pool (Cf.ahead c.pool c.ms k) m:=⟨_,rfl⟩
 rw [← hR] at hr ⊢
 conv at hr=>enter [er,1];rw [hR];unfold Cf.meIs
 obtain ⟨bi,hbi⟩ : ∃ b,b = Cf.inB (Cf.nmO c.pool m).1 (Cf.ahead c.pool c.ms k):=⟨_,rfl⟩
 have HT1:=HT0 (Cf.nmO c.pool m).1
 rw [← hbi] at hr HT1
 obtain ⟨⟨⟨n1,n2⟩,er⟩,hx⟩ : ∃ x,x = Cf.nmO c.pool m:=⟨_,rfl⟩
 rw [← hx] at HK0 hr HT1
 dsimp only at HK0 hr HT1
 have HF0:=fun W=>L2.rmethod_any n2 W
 unfold L2.RmP L2.OwnT at HF0
 obtain ⟨⟨xs,⟨rk,rm⟩,fe⟩,hy⟩ : ∃ y,y = L2.mdOut (L2.Ds.bl n2):=⟨_,rfl⟩
 have hrk:=L2.mdOut_kind hy.symm
 have HXL:=hid (L2.mdOut_len hy.symm)
 rw [← hy] at HF0 hr
 dsimp only at HF0 hr
 unfold ndV at HK0 HT1
 have HS:=hid (fun W a9 c9 (h : Kit.IsS 2 W (.slice a9 xs.length c9) xs.length (xs.flatMap L2.tyC))=>L2.rslots_any xs _ W h)
 obtain ⟨s,hs⟩ : ∃ s,s = L2.slotsOf xs:=⟨_,rfl⟩
 have hsl : 0 ≤ L2.slotsOf xs ∧ L2.slotsOf xs ≤ 281474976710656:=by
  have h1:=L2.longs_le xs
  have h2:=HXL.out
  unfold L2.slotsOf
  omega
 unfold Cf.frE at hr
 rw [← hs] at HS hsl hr
 obtain ⟨sb,hsb⟩ : ∃ sb,sb = Cf.statB m:=⟨_,rfl⟩
 rw [← hsb] at hr
 unfold Cf.statB at hsb
 have hco : ∀ er,Cf.CoIs c.pool m er → Cf.CoIs c.pool m er:=fun er h=>h
 obtain ⟨CO,hCO⟩ : ∃ CO,CO = Cf.CoIs c.pool m:=⟨_,rfl⟩
 rw [← hCO] at hr HCo0
 obtain ⟨ac,nm,ds,st,lc,co,hs9⟩:=m
 unfold mbV at HK0 HCo0
 dsimp only at HK0 HCo0 hr hsb c0 c1 c2 c3 c4 c5 c6
 have hw : IntKind.i64.wrap (s + 1) = s + 1:=IntWalk.i64_in _ (by omega)
 have hin:=init_eq n1
 obtain ⟨nb,hnb⟩ : ∃ b,b = decide (n1 = Cf.initS):=⟨_,rfl⟩
 rw [← hnb] at hin
 have HNB:=hid hnb
 rw [hvs] at HK0 HT1 HCo0 ⊢
 have HK:=hid HK0
 have HF:=hid HF0
 have HT:=hid HT1
 have HR:=hid hr
 have HCo:=hid HCo0
 have HRk:=hid hrk
 have HSB:=hid hsb.symm
 have HIN:=hid hin
 clear hsb hin
 have hki : (k : Int) < (c.ms.length : Int):=by omega
 have hkc : (k : Int) ≤ (cap' : Int):=by omega
 obtain ⟨nfs,hnfs⟩ : ∃ n,n = c.ms.length:=⟨_,rfl⟩
 rw [← hnfs] at HK HT HCo hki hln hkl hcap ⊢
 obtain ⟨xl,hxl⟩ : ∃ n,n = xs.length:=⟨_,rfl⟩
 clear HK0 HF0 hr hx hy hbi hnb hk hvs hp hf hm9 hcl hB hH hl HT0 HT1 HCo0 hnfs hrk hs hCO hR hco hxl
 by_cases h1 : er = 0
 focus
  subst h1
  by_cases h2 : fe = 0
  focus
   subst h2
   cases bi
   focus
    cases nb
    focus
     have HNO : Hid (¬ (n1 = Cf.initS ∧ (sb = true ∨ rk ≠ 0))):=by
      show ¬ _
      rintro ⟨h,-⟩
      have hn:=of_decide_eq_false HNB.out.symm
      exact hn h
     cases sb
     focus
      have HR2:=hid (fun er h=>HR.out er (by rw [if_neg (by decide),if_neg (by decide),if_neg (by decide),if_neg HNO.out];exact h))
      clear HR HNO
      by_cases b1 : st < 0
      focus
       have HX:=hid (HR2.out 3 (by rw [if_pos (Or.inl b1),if_pos (by decide)]))
       clear HR2
       have d1 : decide (st < 0) = true:=by simpa using b1
       have HL3:=hid True.intro
      rotate_left 1
      focus
       have d1 : decide (st < 0) = false:=by simpa using b1
       by_cases b2 : 64 < st
       focus
        have HX:=hid (HR2.out 3 (by rw [if_pos (Or.inr (Or.inl b2)),if_pos (by decide)]))
        clear HR2
        have d2 : decide (64 < st) = true:=by simpa using b2
        have HL3:=hid True.intro
       rotate_left 1
       focus
        have d2 : decide (64 < st) = false:=by simpa using b2
        by_cases b3 : lc < 0
        focus
         have HX:=hid (HR2.out 3 (by rw [if_pos (Or.inr (Or.inr (Or.inl b3))),if_pos (by decide)]))
         clear HR2
         have d3 : decide (lc < 0) = true:=by simpa using b3
         have HL3:=hid True.intro
        rotate_left 1
        focus
         have d3 : decide (lc < 0) = false:=by simpa using b3
         by_cases b4 : 64 < lc
         focus
          have HX:=hid (HR2.out 3 (by rw [if_pos (Or.inr (Or.inr (Or.inr b4))),if_pos (by decide)]))
          clear HR2
          have d4 : decide (64 < lc) = true:=by simpa using b4
          have HL3:=hid True.intro
         rotate_left 1
         focus
          have d4 : decide (64 < lc) = false:=by simpa using b4
          have hnb9 : ¬ (st < 0 ∨ 64 < st ∨ lc < 0 ∨ 64 < lc):=by omega
          by_cases b5 : lc < s + 1
          focus
           have hb5 : lc < s + (if false = true then 0 else 1):=by simpa using b5
           have HX:=hid (HR2.out 45 (by rw [if_neg hnb9,if_pos hb5,if_pos (by decide)]))
           clear hb5
           clear HR2 hnb9
           have d5 : decide (lc < s + 1) = true:=by simpa using b5
           have HL45:=hid True.intro
          rotate_left 1
          focus
           have hb5 : ¬ lc < s + (if false = true then 0 else 1):=by simpa using b5
           have HX:=hid (fun er h=>HR2.out er (by rw [if_neg hnb9,if_neg hb5,if_neg (by decide)];exact h))
           clear HR2 hnb9 hb5
           have d5 : decide (lc < s + 1) = false:=by simpa using b5
           have HLe:=hid True.intro
     rotate_left 6
     focus
      have HR2:=hid (fun er h=>HR.out er (by rw [if_neg (by decide),if_neg (by decide),if_neg (by decide),if_neg HNO.out];exact h))
      clear HR HNO
      by_cases b1 : st < 0
      focus
       have HX:=hid (HR2.out 3 (by rw [if_pos (Or.inl b1),if_pos (by decide)]))
       clear HR2
       have d1 : decide (st < 0) = true:=by simpa using b1
       have HL3:=hid True.intro
      rotate_left 1
      focus
       have d1 : decide (st < 0) = false:=by simpa using b1
       by_cases b2 : 64 < st
       focus
        have HX:=hid (HR2.out 3 (by rw [if_pos (Or.inr (Or.inl b2)),if_pos (by decide)]))
        clear HR2
        have d2 : decide (64 < st) = true:=by simpa using b2
        have HL3:=hid True.intro
       rotate_left 1
       focus
        have d2 : decide (64 < st) = false:=by simpa using b2
        by_cases b3 : lc < 0
        focus
         have HX:=hid (HR2.out 3 (by rw [if_pos (Or.inr (Or.inr (Or.inl b3))),if_pos (by decide)]))
         clear HR2
         have d3 : decide (lc < 0) = true:=by simpa using b3
         have HL3:=hid True.intro
        rotate_left 1
        focus
         have d3 : decide (lc < 0) = false:=by simpa using b3
         by_cases b4 : 64 < lc
         focus
          have HX:=hid (HR2.out 3 (by rw [if_pos (Or.inr (Or.inr (Or.inr b4))),if_pos (by decide)]))
          clear HR2
          have d4 : decide (64 < lc) = true:=by simpa using b4
          have HL3:=hid True.intro
         rotate_left 1
         focus
          have d4 : decide (64 < lc) = false:=by simpa using b4
          have hnb9 : ¬ (st < 0 ∨ 64 < st ∨ lc < 0 ∨ 64 < lc):=by omega
          by_cases b5 : lc < s
          focus
           have hb5 : lc < s + (if true = true then 0 else 1):=by simpa using b5
           have HX:=hid (HR2.out 45 (by rw [if_neg hnb9,if_pos hb5,if_pos (by decide)]))
           clear hb5
           clear HR2 hnb9
           have d5 : decide (lc < s) = true:=by simpa using b5
           have HL45:=hid True.intro
          rotate_left 1
          focus
           have hb5 : ¬ lc < s + (if true = true then 0 else 1):=by simpa using b5
           have HX:=hid (fun er h=>HR2.out er (by rw [if_neg hnb9,if_neg hb5,if_neg (by decide)];exact h))
           clear HR2 hnb9 hb5
           have d5 : decide (lc < s) = false:=by simpa using b5
           have HLe:=hid True.intro
    rotate_left 12
    focus
     cases sb
     focus
      by_cases h5 : rk = 0
      focus
       have hrm:=HRk.out h5
       subst h5 hrm
       have HZZ:=hid True.intro
       have HNO : Hid (¬ (n1 = Cf.initS ∧ (false = true ∨ (0 : Int) ≠ 0))):=by
        show ¬ _
        rintro ⟨-,h|h⟩
        ·cases h
        ·exact h rfl
       have HR2:=hid (fun er h=>HR.out er (by rw [if_neg (by decide),if_neg (by decide),if_neg (by decide),if_neg HNO.out];exact h))
       clear HR HNO
       by_cases b1 : st < 0
       focus
        have HX:=hid (HR2.out 3 (by rw [if_pos (Or.inl b1),if_pos (by decide)]))
        clear HR2
        have d1 : decide (st < 0) = true:=by simpa using b1
        have HL3:=hid True.intro
       rotate_left 1
       focus
        have d1 : decide (st < 0) = false:=by simpa using b1
        by_cases b2 : 64 < st
        focus
         have HX:=hid (HR2.out 3 (by rw [if_pos (Or.inr (Or.inl b2)),if_pos (by decide)]))
         clear HR2
         have d2 : decide (64 < st) = true:=by simpa using b2
         have HL3:=hid True.intro
        rotate_left 1
        focus
         have d2 : decide (64 < st) = false:=by simpa using b2
         by_cases b3 : lc < 0
         focus
          have HX:=hid (HR2.out 3 (by rw [if_pos (Or.inr (Or.inr (Or.inl b3))),if_pos (by decide)]))
          clear HR2
          have d3 : decide (lc < 0) = true:=by simpa using b3
          have HL3:=hid True.intro
         rotate_left 1
         focus
          have d3 : decide (lc < 0) = false:=by simpa using b3
          by_cases b4 : 64 < lc
          focus
           have HX:=hid (HR2.out 3 (by rw [if_pos (Or.inr (Or.inr (Or.inr b4))),if_pos (by decide)]))
           clear HR2
           have d4 : decide (64 < lc) = true:=by simpa using b4
           have HL3:=hid True.intro
          rotate_left 1
          focus
           have d4 : decide (64 < lc) = false:=by simpa using b4
           have hnb9 : ¬ (st < 0 ∨ 64 < st ∨ lc < 0 ∨ 64 < lc):=by omega
           by_cases b5 : lc < s + 1
           focus
            have hb5 : lc < s + (if false = true then 0 else 1):=by simpa using b5
            have HX:=hid (HR2.out 45 (by rw [if_neg hnb9,if_pos hb5,if_pos (by decide)]))
            clear hb5
            clear HR2 hnb9
            have d5 : decide (lc < s + 1) = true:=by simpa using b5
            have HL45:=hid True.intro
           rotate_left 1
           focus
            have hb5 : ¬ lc < s + (if false = true then 0 else 1):=by simpa using b5
            have HX:=hid (fun er h=>HR2.out er (by rw [if_neg hnb9,if_neg hb5,if_neg (by decide)];exact h))
            clear HR2 hnb9 hb5
            have d5 : decide (lc < s + 1) = false:=by simpa using b5
            have HLe:=hid True.intro
      rotate_left 6
      focus
       have hd3 : (rk == 0) = false:=by simpa using h5
       have HX:=hid (HR.out 45 (by have hn:=of_decide_eq_true HNB.out.symm;rw [if_neg (by decide),if_neg (by decide),if_neg (by decide),if_pos ⟨hn,.inr h5⟩]))
       clear HR h5
       have HL45i:=hid True.intro
     rotate_left 7
     focus
      have HX:=hid (HR.out 45 (by have hn:=of_decide_eq_true HNB.out.symm;simp [hn]))
      clear HR
      have HL45i:=hid True.intro
   rotate_left 20
   focus
    have HX:=hid (HR.out 5 (by simp))
    clear HR
    have HL5:=hid True.intro
  rotate_left 21
  focus
   have hd : (fe != 0) = true:=by simpa using h2
   have H2:=hid h2
   clear h2
   have HLf:=hid True.intro
 rotate_left 22
 focus
  have hd : (er != 0) = true:=by simpa using h1
  have H1:=hid h1
  clear h1
  have HLr:=hid True.intro
 all_goals
  (go_enter Tryz.func60,Tryz.ntmps60;go_wp2_with (first|(go_at_call 114;(with_reducible refine (HK.out _ ?_).mono ?_);exact BLw;rintro e W1 ⟨rfl,hb1⟩;obtain ⟨bC,bM,hzM,B1⟩:=boxes2 hb1;(obtain ⟨q0,q1,q2,q3,q4,q5,q6,q7⟩:=bC.cells8);(obtain ⟨m0,m1,m2,m3,m4,m5,m6⟩:=bM.cells7);have BC1:=hid bC;have BM1:=hid bM;have HB1:=hid B1;have hzw1 : w.heap.size + 1 < W1.heap.size:=(by omega);have hzw0 : w.heap.size < W1.heap.size:=(by omega);clear hb1 bC bM B1)|(go_at_call 117;(with_reducible refine (HF.out _).mono ?_);rintro e W2 ⟨av,rfl,hoT,hb2⟩;obtain ⟨aa,ac2,rfl⟩:=L3.own_form hoT;obtain ⟨bS,hzS,B2⟩:=belows1 hb2;have bC:=BC1.out.below B2 BC1.out.sz;have bM:=BM1.out.below B2 BM1.out.sz;clear q0 q1 q2 q3 q4 q5 q6 q7 m0 m1 m2 m3 m4 m5 m6;(obtain ⟨q0,q1,q2,q3,q4,q5,q6,q7⟩:=bC.cells8);(obtain ⟨m0,m1,m2,m3,m4,m5,m6⟩:=bM.cells7);have s0:=bS.cell 0;have s1:=bS.cell 1;have s2:=bS.cell 2;simp at s0 s1 s2;have IT:=hid (Kit.isS_of_owns hoT HXL.out);have BC2:=hid bC;have BM2:=hid bM;have BS2:=hid bS;have HB2:=hid (belows HB1.out B2 HB1.out.size);have hzw2 : W1.heap.size < W2.heap.size:=(by omega);have hzw3 : w.heap.size + 1 < W2.heap.size:=(by omega);have hzw4 : w.heap.size < W2.heap.size:=(by omega);clear hb2 bC bM bS B2 hoT)))
  (first
   | (have _g:=HLr;go_ret;exact ⟨er,HR.out er (by have h1:=H1.out;simp [h1]),rfl,(by first|(have B8:=HB2.out;exact B8.alloc B8.size _)|(have B8:=HB1.out;exact B8.alloc B8.size _))⟩)
   | (have _g:=HLf;go_ret;exact ⟨fe,HR.out fe (by have h2:=H2.out;simp [h2]),rfl,(by have B8:=HB2.out;exact BLw)⟩)
   | ((first|((have _g:=HZZ);(refine region_named fun W3 hW3=>?_;have hB3 : Below W2.heap.size W2 W3:=(by rw [hW3];exact (Below.refl _ _).alloc (Nat.le_refl _) _);have t0 : W3.cell? ⟨W2.heap.size,0,none⟩ = some (.int .i64 0):=(by rw [hW3,(L3.BX.new _ _ _).cell];rfl);have t1 : W3.cell? ⟨W2.heap.size,1,none⟩ = some (.string ⟨#[]⟩):=(by rw [hW3,(L3.BX.new _ _ _).cell];rfl);have hz3 : W2.heap.size < W3.heap.size:=(by rw [hW3];simp);clear hW3;have B3 : Below w.heap.size w W3:=belows HB2.out hB3 HB2.out.size;have bC:=BC2.out.below hB3 BC2.out.sz;have bM:=BM2.out.below hB3 BM2.out.sz;have bS:=BS2.out.below hB3 BS2.out.sz;clear q0 q1 q2 q3 q4 q5 q6 q7 s0 s1 s2;(obtain ⟨q0,q1,q2,q3,q4,q5,q6,q7⟩:=bC.cells8);have s0:=bS.cell 0;have s1:=bS.cell 1;have s2:=bS.cell 2;simp at s0 s1 s2;have HTr:=hid (fun d os=>Calls.regrown_of (d:=d) (os:=os) (w:=W3) (HT.out _ (belows B3 (below_regrown W3 d os) B3.size)));have y0:=fun d os=>cell_regrown q0 d os;have y1:=fun d os=>cell_regrown q1 d os;have y2:=fun d os=>cell_regrown q2 d os;have y3:=fun d os=>cell_regrown q3 d os;have y4:=fun d os=>cell_regrown q4 d os;have y5:=fun d os=>cell_regrown q5 d os;have y6:=fun d os=>cell_regrown q6 d os;have y7:=fun d os=>cell_regrown q7 d os;have z0:=fun d os=>cell_regrown s0 d os;have z1:=fun d os=>cell_regrown s1 d os;have z2:=fun d os=>cell_regrown s2 d os;have BC3:=hid bC;have BM3:=hid bM;have BS3:=hid bS;have IT3:=hid (IT.out.below hB3 (Nat.le_refl _));have HB3:=hid B3;clear bC bM bS q0 q1 q2 q3 q4 q5 q6 q7 s0 s1 s2 m0 m1 m2 m3 m4 m5 m6;refine wp_region_quiet_below (by kernel_rfl) (by kernel_rfl) ?_;(repeat (go_big_quiet_step (exact HTr.out _ _)));refine wpQuiet_nil ?_;intro W4 hw';obtain ⟨⟨dq,osq⟩,hw''⟩:=hw';have hbq:=below_regrown W3 dq osq;rw [← hw''] at hbq;clear hw'' y0 y1 y2 y3 y4 y5 y6 y7 z0 z1 z2;have bC:=BC3.out.below hbq BC3.out.sz;have bM:=BM3.out.below hbq BM3.out.sz;have bS:=BS3.out.below hbq BS3.out.sz;(obtain ⟨q0,q1,q2,q3,q4,q5,q6,q7⟩:=bC.cells8);(obtain ⟨m0,m1,m2,m3,m4,m5,m6⟩:=bM.cells7);have s0:=bS.cell 0;have s1:=bS.cell 1;have s2:=bS.cell 2;simp at s0 s1 s2;have t0:=(hbq.cell (p:=⟨W2.heap.size,0,none⟩) (by simpa using hz3)).trans t0;have t1:=(hbq.cell (p:=⟨W2.heap.size,1,none⟩) (by simpa using hz3)).trans t1;have BC4:=hid bC;have BM4:=hid bM;have IT4:=hid (IT3.out.below hbq (Nat.le_refl _));have HB4:=hid (belows HB3.out hbq HB3.out.size);clear bC bM bS hbq B3 hB3;have hsb:=HSB.out;have hin:=HIN.out;go_wp2_with (first|(go_at_call 118;(with_reducible refine (HS.out _ _ _ ?_).mono ?_);exact IT4.out;rintro e W5 ⟨rfl,hb5⟩;have bC:=BC4.out.below hb5 BC4.out.sz;have bM:=BM4.out.below hb5 BM4.out.sz;clear q0 q1 q2 q3 q4 q5 q6 q7 m0 m1 m2 m3 m4 m5 m6;(obtain ⟨q0,q1,q2,q3,q4,q5,q6,q7⟩:=bC.cells8);(obtain ⟨m0,m1,m2,m3,m4,m5,m6⟩:=bM.cells7);have HB5:=hid (belows HB4.out hb5 HB4.out.size);clear hb5 bC bM)|(go_at_call 119;(with_reducible refine (HCo.out _ ?_).mono ?_);exact HB5.out;rintro e W6 ⟨er,hco,rfl,hb6⟩;have HCO:=hid hco;have HB6:=hid (belows HB5.out hb6 HB5.out.size);clear hb6 hco))))|((fail_if_success (have _g:=HZZ));(refine region_named fun W3 hW3=>?_;have hB3 : Below W2.heap.size W2 W3:=(by rw [hW3];exact (Below.refl _ _).alloc (Nat.le_refl _) _);have t0 : W3.cell? ⟨W2.heap.size,0,none⟩ = some (.int .i64 rk):=(by rw [hW3,(L3.BX.new _ _ _).cell];rfl);have t1 : W3.cell? ⟨W2.heap.size,1,none⟩ = some (.string ⟨rm.toArray⟩):=(by rw [hW3,(L3.BX.new _ _ _).cell];rfl);have hz3 : W2.heap.size < W3.heap.size:=(by rw [hW3];simp);clear hW3;have B3 : Below w.heap.size w W3:=belows HB2.out hB3 HB2.out.size;have bC:=BC2.out.below hB3 BC2.out.sz;have bM:=BM2.out.below hB3 BM2.out.sz;have bS:=BS2.out.below hB3 BS2.out.sz;clear q0 q1 q2 q3 q4 q5 q6 q7 s0 s1 s2;(obtain ⟨q0,q1,q2,q3,q4,q5,q6,q7⟩:=bC.cells8);have s0:=bS.cell 0;have s1:=bS.cell 1;have s2:=bS.cell 2;simp at s0 s1 s2;have HTr:=hid (fun d os=>Calls.regrown_of (d:=d) (os:=os) (w:=W3) (HT.out _ (belows B3 (below_regrown W3 d os) B3.size)));have y0:=fun d os=>cell_regrown q0 d os;have y1:=fun d os=>cell_regrown q1 d os;have y2:=fun d os=>cell_regrown q2 d os;have y3:=fun d os=>cell_regrown q3 d os;have y4:=fun d os=>cell_regrown q4 d os;have y5:=fun d os=>cell_regrown q5 d os;have y6:=fun d os=>cell_regrown q6 d os;have y7:=fun d os=>cell_regrown q7 d os;have z0:=fun d os=>cell_regrown s0 d os;have z1:=fun d os=>cell_regrown s1 d os;have z2:=fun d os=>cell_regrown s2 d os;have BC3:=hid bC;have BM3:=hid bM;have BS3:=hid bS;have IT3:=hid (IT.out.below hB3 (Nat.le_refl _));have HB3:=hid B3;clear bC bM bS q0 q1 q2 q3 q4 q5 q6 q7 s0 s1 s2 m0 m1 m2 m3 m4 m5 m6;refine wp_region_quiet_below (by kernel_rfl) (by kernel_rfl) ?_;(repeat (go_big_quiet_step (exact HTr.out _ _)));refine wpQuiet_nil ?_;intro W4 hw';obtain ⟨⟨dq,osq⟩,hw''⟩:=hw';have hbq:=below_regrown W3 dq osq;rw [← hw''] at hbq;clear hw'' y0 y1 y2 y3 y4 y5 y6 y7 z0 z1 z2;have bC:=BC3.out.below hbq BC3.out.sz;have bM:=BM3.out.below hbq BM3.out.sz;have bS:=BS3.out.below hbq BS3.out.sz;(obtain ⟨q0,q1,q2,q3,q4,q5,q6,q7⟩:=bC.cells8);(obtain ⟨m0,m1,m2,m3,m4,m5,m6⟩:=bM.cells7);have s0:=bS.cell 0;have s1:=bS.cell 1;have s2:=bS.cell 2;simp at s0 s1 s2;have t0:=(hbq.cell (p:=⟨W2.heap.size,0,none⟩) (by simpa using hz3)).trans t0;have t1:=(hbq.cell (p:=⟨W2.heap.size,1,none⟩) (by simpa using hz3)).trans t1;have BC4:=hid bC;have BM4:=hid bM;have IT4:=hid (IT3.out.below hbq (Nat.le_refl _));have HB4:=hid (belows HB3.out hbq HB3.out.size);clear bC bM bS hbq B3 hB3;have hsb:=HSB.out;have hin:=HIN.out;go_wp2_with (first|(go_at_call 118;(with_reducible refine (HS.out _ _ _ ?_).mono ?_);exact IT4.out;rintro e W5 ⟨rfl,hb5⟩;have bC:=BC4.out.below hb5 BC4.out.sz;have bM:=BM4.out.below hb5 BM4.out.sz;clear q0 q1 q2 q3 q4 q5 q6 q7 m0 m1 m2 m3 m4 m5 m6;(obtain ⟨q0,q1,q2,q3,q4,q5,q6,q7⟩:=bC.cells8);(obtain ⟨m0,m1,m2,m3,m4,m5,m6⟩:=bM.cells7);have HB5:=hid (belows HB4.out hb5 HB4.out.size);clear hb5 bC bM)|(go_at_call 119;(with_reducible refine (HCo.out _ ?_).mono ?_);exact HB5.out;rintro e W6 ⟨er,hco,rfl,hb6⟩;have HCO:=hid hco;have HB6:=hid (belows HB5.out hb6 HB5.out.size);clear hb6 hco)))));go_ret;first|(have _g:=HL3;exact ⟨3,HX.out,rfl,HB4.out⟩)|(have _g:=HL5;exact ⟨5,HX.out,rfl,HB4.out⟩)|(have _g:=HL45i;exact ⟨45,HX.out,rfl,HB4.out⟩)|(have _g:=HL45;exact ⟨45,HX.out,rfl,HB5.out⟩)|(have _g:=HLe;exact ⟨er,HX.out er HCO.out,rfl,HB6.out⟩)))
end Go.Proofs.YtnojgiflgmnjlaaGreatDoor
namespace Go.Proofs.YtnojgiflgmnjlaaGreatDoor
open Go.RowKit
namespace Cf
theorem cl0 {c : Cl} {er : Int} (h : HdIs c er) (hz : er ≠ 0) : ClIs c er:=FstR.at (k:=0) (fun j hj=>by omega) (by decide) h hz
theorem cl1 {c : Cl} {er : Int} (h0 : HdIs c 0) (h : FstR (FdIs c.pool c.fs) c.fs.length er) (hz : er ≠ 0) : ClIs c er:=FstR.at (k:=1) (fun j hj=>by
 obtain rfl : j = 0:=by omega
 exact h0) (by decide) h hz
theorem cl2 {c : Cl} {er : Int} (h0 : HdIs c 0) (h1 : FstR (FdIs c.pool c.fs) c.fs.length 0) (h : FstR (MeIs c.pool c.ms) c.ms.length er) (hz : er ≠ 0) : ClIs c er:=FstR.at (k:=2) (fun j hj=>by
 match j,hj with
 | 0,_=>exact h0
 | 1,_=>exact h1) (by decide) h hz
theorem cl3 {c : Cl} {er : Int} (h0 : HdIs c 0) (h1 : FstR (FdIs c.pool c.fs) c.fs.length 0) (h2 : FstR (MeIs c.pool c.ms) c.ms.length 0) (h : CnIs c er) : ClIs c er:=by
 by_cases hz : er = 0
 ·subst hz
  exact FstR.all fun j hj=>by
   match j,hj with
   | 0,_=>exact h0
   | 1,_=>exact h1
   | 2,_=>exact h2
   | 3,_=>exact h
 ·exact FstR.at (k:=3) (fun j hj=>by
   match j,hj with
   | 0,_=>exact h0
   | 1,_=>exact h1
   | 2,_=>exact h2) (by decide) h hz
end Cf
set_option maxHeartbeats 4000000 in
theorem rcheck04_any (c : Cf.Cl) (vs : Array Value) (w : World) (h : ClR w vs c) (hs : ∀ x ∈ c.pool,x.s.size ≤ 140737488355328 ∧ L3.I6 x.n) :
  Calls Tryz.prog 18 #[.agg vs] w fun e w'=>∃ er,Cf.ClIs c er ∧ e = .returned (.int .i64 er) ∧ Below w.heap.size w w':=by
 have HV0:=fun W=>rversion_any c.mi c.ma W
 have HT0:=fun W (q : Below w.heap.size w W)=>rclass_any c c.th vs W (h.below q (Nat.le_refl _))
 have HU0:=fun W (q : Below w.heap.size w W)=>rclass_any c c.su vs W (h.below q (Nat.le_refl _))
 have HFd:=hid (fun (k : Nat) m (hk : c.fs[k]? = some m) W (q : Below w.heap.size w W)=>(rfieldAt_any c vs k m W (h.below q (Nat.le_refl _)) hk).mono (R':=fun e w'=>∃ er,Cf.FdIs c.pool c.fs k er ∧ e = .returned (.int .i64 er) ∧ Below W.heap.size W w') fun e w' ⟨he,hb⟩=>⟨_,⟨m,hk,rfl⟩,he,hb⟩)
 have HMe:=hid (fun (k : Nat) m (hk : c.ms[k]? = some m) W (q : Below w.heap.size w W)=>(rmethodAt_any c vs k m W (h.below q (Nat.le_refl _)) hk).mono (R':=fun e w'=>∃ er,Cf.MeIs c.pool c.ms k er ∧ e = .returned (.int .i64 er) ∧ Below W.heap.size W w') fun e w' ⟨er,h1,he,hb⟩=>⟨er,⟨m,hk,h1⟩,he,hb⟩)
 obtain ⟨pv,fv,mv,rfl,hp,hf,hm⟩:=h
 have HP:=hid (fun W (q : Below w.heap.size w W)=>L3.rcheck_any c.pool pv W (hp.below q (Nat.le_refl _)) hs)
 have HCo:=hid (fun W (q : Below w.heap.size w W)=>rcodes_any c.pool pv W (hp.below q (Nat.le_refl _)))
 have hfl:=hf.size
 have hml:=hm.size
 obtain ⟨pa,pc,rfl⟩:=hp.len
 obtain ⟨fa,fc,rfl⟩:=hf.len
 obtain ⟨ma,mc,rfl⟩:=hm.len
 have HH0:=fun er pk (h1 : L3.CkIs c.pool pk) h2 (hv : ¬ Cf.verB c.mi c.ma = false)=>(show Cf.HdIs c er from by
  unfold Cf.HdIs
  rw [if_neg hv]
  exact ⟨pk,h1,h2⟩)
 have HH1:=fun er (hv : Cf.verB c.mi c.ma = false) (h : er = 41)=>(show Cf.HdIs c er from by
  unfold Cf.HdIs
  rw [if_pos hv,h])
 have CL0:=hid (fun er=>@Cf.cl0 c er)
 have CL1:=hid (fun er=>@Cf.cl1 c er)
 have CL2:=hid (fun er=>@Cf.cl2 c er)
 have CL3:=hid (fun er=>@Cf.cl3 c er)
 have hCn : Cf.CnIs c (if decide (Cf.cix c.pool ≠ 0) = false ∧ 0 < c.ms.length then 43 else 0):=⟨_,_,Cf.cix_fi c.pool,rfl⟩
 obtain ⟨vb,hvb⟩ : ∃ b,b = Cf.verB c.mi c.ma:=⟨_,rfl⟩
 rw [← hvb] at HV0 HH0 HH1
 have hacc0 : Cf.accB 33 c.ac = (bits .andNot .i64 c.ac 33 != 0):=rfl
 obtain ⟨acc,hacc⟩ : ∃ b,b = Cf.accB 33 c.ac:=⟨_,rfl⟩
 rw [← hacc] at HH0 hacc0
 obtain ⟨t,ht⟩ : ∃ b,b = Cf.claE c.pool c.th:=⟨_,rfl⟩
 rw [← ht] at HT0 HH0
 obtain ⟨u,hu⟩ : ∃ b,b = Cf.claE c.pool c.su:=⟨_,rfl⟩
 rw [← hu] at HU0 HH0
 obtain ⟨cx,hcx⟩ : ∃ n,n = Cf.cix c.pool:=⟨_,rfl⟩
 rw [← hcx] at HCo hCn
 have HCn:=hid hCn
 have HV:=hid HV0
 have HT:=hid HT0
 have HU:=hid HU0
 have hacc1:=hacc0.symm
 clear hp hf hm hs hvb hacc ht hu hcx hCn HV0 HT0 HU0 hacc0
 cases vb with
 | false =>
  have HX:=hid (HH1 41 rfl rfl)
  clear HH0 HH1
  (go_enter Tryz.func18,Tryz.ntmps18;go_wp2_with (first|(go_at_call 38;refine (HV.out _).mono ?_;rintro e w' ⟨rfl,rfl⟩)|(go_at_call 57;refine (HP.out _ BLw).mono ?_;rintro e w1 ⟨pk,hck,rfl,hb1⟩;obtain ⟨bC,hzC,B1⟩:=belows1 hb1;(obtain ⟨q0,q1,q2,q3,q4,q5,q6,q7⟩:=bC.cells8);have HCK:=hid hck;have BC1:=hid bC;have HB1:=hid B1;clear hb1 bC B1 hck;by_cases hz : pk = 0;all_goals (first|(subst hz)|(have hd : (pk != 0) = true:=(by simpa using hz);have HZ:=hid hz;clear hz)))|(go_at_call 58;first|((with_reducible refine (HT.out _ ?_).mono ?_);exact HB1.out;rintro e w2 ⟨rfl,hb2⟩;have HB2:=hid (belows HB1.out hb2 HB1.out.size);have bC:=BC1.out.below hb2 BC1.out.sz;have BC2:=hid bC;clear q0 q1 q2 q3 q4 q5 q6 q7;(obtain ⟨q0,q1,q2,q3,q4,q5,q6,q7⟩:=bC.cells8);clear hb2 bC)|((with_reducible refine (HU.out _ ?_).mono ?_);exact HB2.out;rintro e w3 ⟨rfl,hb3⟩;have HB3:=hid (belows HB2.out hb3 HB2.out.size);have bC:=BC2.out.below hb3 BC2.out.sz;have BC3:=hid bC;clear q0 q1 q2 q3 q4 q5 q6 q7;(obtain ⟨q0,q1,q2,q3,q4,q5,q6,q7⟩:=bC.cells8);clear hb3 bC))))
  go_ret
  exact ⟨41,CL0.out 41 HX.out (by decide),rfl,BLw⟩
 | true =>
  have HH:=hid (fun er pk h1 h2=>HH0 er pk h1 h2 (by decide))
  clear HH0 HH1
  cases acc with
  | true =>
   (go_enter Tryz.func18,Tryz.ntmps18;go_wp2_with (first|(go_at_call 38;refine (HV.out _).mono ?_;rintro e w' ⟨rfl,rfl⟩)|(go_at_call 57;refine (HP.out _ BLw).mono ?_;rintro e w1 ⟨pk,hck,rfl,hb1⟩;obtain ⟨bC,hzC,B1⟩:=belows1 hb1;(obtain ⟨q0,q1,q2,q3,q4,q5,q6,q7⟩:=bC.cells8);have HCK:=hid hck;have BC1:=hid bC;have HB1:=hid B1;clear hb1 bC B1 hck;by_cases hz : pk = 0;all_goals (first|(subst hz)|(have hd : (pk != 0) = true:=(by simpa using hz);have HZ:=hid hz;clear hz)))|(go_at_call 58;first|((with_reducible refine (HT.out _ ?_).mono ?_);exact HB1.out;rintro e w2 ⟨rfl,hb2⟩;have HB2:=hid (belows HB1.out hb2 HB1.out.size);have bC:=BC1.out.below hb2 BC1.out.sz;have BC2:=hid bC;clear q0 q1 q2 q3 q4 q5 q6 q7;(obtain ⟨q0,q1,q2,q3,q4,q5,q6,q7⟩:=bC.cells8);clear hb2 bC)|((with_reducible refine (HU.out _ ?_).mono ?_);exact HB2.out;rintro e w3 ⟨rfl,hb3⟩;have HB3:=hid (belows HB2.out hb3 HB2.out.size);have bC:=BC2.out.below hb3 BC2.out.sz;have BC3:=hid bC;clear q0 q1 q2 q3 q4 q5 q6 q7;(obtain ⟨q0,q1,q2,q3,q4,q5,q6,q7⟩:=bC.cells8);clear hb3 bC))))
   ·go_ret
    exact ⟨42,CL0.out 42 (HH.out 42 0 HCK.out (by rw [if_neg (by decide),if_pos (by decide)])) (by decide),rfl,HB1.out⟩
   ·(go_ret;exact ⟨pk,CL0.out pk (HH.out pk pk HCK.out (by rw [if_pos HZ.out])) HZ.out,rfl,HB1.out⟩)
  | false =>
   by_cases h1 : t = 0
   ·subst h1
    by_cases h2 : u = 0
    ·subst h2
     by_cases h3 : 256 < c.fs.length ∨ 256 < c.ms.length
     ·by_cases h4 : 256 < c.fs.length
      ·have d1 : decide (256 < (c.fs.length : Int)) = true:=by simp;omega
       have H3:=hid h3
       clear h3
       (go_enter Tryz.func18,Tryz.ntmps18;go_wp2_with (first|(go_at_call 38;refine (HV.out _).mono ?_;rintro e w' ⟨rfl,rfl⟩)|(go_at_call 57;refine (HP.out _ BLw).mono ?_;rintro e w1 ⟨pk,hck,rfl,hb1⟩;obtain ⟨bC,hzC,B1⟩:=belows1 hb1;(obtain ⟨q0,q1,q2,q3,q4,q5,q6,q7⟩:=bC.cells8);have HCK:=hid hck;have BC1:=hid bC;have HB1:=hid B1;clear hb1 bC B1 hck;by_cases hz : pk = 0;all_goals (first|(subst hz)|(have hd : (pk != 0) = true:=(by simpa using hz);have HZ:=hid hz;clear hz)))|(go_at_call 58;first|((with_reducible refine (HT.out _ ?_).mono ?_);exact HB1.out;rintro e w2 ⟨rfl,hb2⟩;have HB2:=hid (belows HB1.out hb2 HB1.out.size);have bC:=BC1.out.below hb2 BC1.out.sz;have BC2:=hid bC;clear q0 q1 q2 q3 q4 q5 q6 q7;(obtain ⟨q0,q1,q2,q3,q4,q5,q6,q7⟩:=bC.cells8);clear hb2 bC)|((with_reducible refine (HU.out _ ?_).mono ?_);exact HB2.out;rintro e w3 ⟨rfl,hb3⟩;have HB3:=hid (belows HB2.out hb3 HB2.out.size);have bC:=BC2.out.below hb3 BC2.out.sz;have BC3:=hid bC;clear q0 q1 q2 q3 q4 q5 q6 q7;(obtain ⟨q0,q1,q2,q3,q4,q5,q6,q7⟩:=bC.cells8);clear hb3 bC))))
       ·go_ret
        exact ⟨3,CL0.out 3 (HH.out 3 0 HCK.out (by rw [if_neg (by decide),if_neg (by decide),if_neg (by decide),if_neg (by decide),if_pos H3.out])) (by decide),rfl,HB3.out⟩
       ·(go_ret;exact ⟨pk,CL0.out pk (HH.out pk pk HCK.out (by rw [if_pos HZ.out])) HZ.out,rfl,HB1.out⟩)
      ·have d1 : decide (256 < (c.fs.length : Int)) = false:=by simp;omega
       have d2 : decide (256 < (c.ms.length : Int)) = true:=by simp;omega
       have H3:=hid h3
       clear h3
       (go_enter Tryz.func18,Tryz.ntmps18;go_wp2_with (first|(go_at_call 38;refine (HV.out _).mono ?_;rintro e w' ⟨rfl,rfl⟩)|(go_at_call 57;refine (HP.out _ BLw).mono ?_;rintro e w1 ⟨pk,hck,rfl,hb1⟩;obtain ⟨bC,hzC,B1⟩:=belows1 hb1;(obtain ⟨q0,q1,q2,q3,q4,q5,q6,q7⟩:=bC.cells8);have HCK:=hid hck;have BC1:=hid bC;have HB1:=hid B1;clear hb1 bC B1 hck;by_cases hz : pk = 0;all_goals (first|(subst hz)|(have hd : (pk != 0) = true:=(by simpa using hz);have HZ:=hid hz;clear hz)))|(go_at_call 58;first|((with_reducible refine (HT.out _ ?_).mono ?_);exact HB1.out;rintro e w2 ⟨rfl,hb2⟩;have HB2:=hid (belows HB1.out hb2 HB1.out.size);have bC:=BC1.out.below hb2 BC1.out.sz;have BC2:=hid bC;clear q0 q1 q2 q3 q4 q5 q6 q7;(obtain ⟨q0,q1,q2,q3,q4,q5,q6,q7⟩:=bC.cells8);clear hb2 bC)|((with_reducible refine (HU.out _ ?_).mono ?_);exact HB2.out;rintro e w3 ⟨rfl,hb3⟩;have HB3:=hid (belows HB2.out hb3 HB2.out.size);have bC:=BC2.out.below hb3 BC2.out.sz;have BC3:=hid bC;clear q0 q1 q2 q3 q4 q5 q6 q7;(obtain ⟨q0,q1,q2,q3,q4,q5,q6,q7⟩:=bC.cells8);clear hb3 bC))))
       ·go_ret
        exact ⟨3,CL0.out 3 (HH.out 3 0 HCK.out (by rw [if_neg (by decide),if_neg (by decide),if_neg (by decide),if_neg (by decide),if_pos H3.out])) (by decide),rfl,HB3.out⟩
       ·(go_ret;exact ⟨pk,CL0.out pk (HH.out pk pk HCK.out (by rw [if_pos HZ.out])) HZ.out,rfl,HB1.out⟩)
     ·have d1 : decide (256 < (c.fs.length : Int)) = false:=by simp;omega
      have d2 : decide (256 < (c.ms.length : Int)) = false:=by simp;omega
      have H3:=hid h3
      clear h3
      (go_enter Tryz.func18,Tryz.ntmps18;go_wp2_with (first|(go_at_call 38;refine (HV.out _).mono ?_;rintro e w' ⟨rfl,rfl⟩)|(go_at_call 57;refine (HP.out _ BLw).mono ?_;rintro e w1 ⟨pk,hck,rfl,hb1⟩;obtain ⟨bC,hzC,B1⟩:=belows1 hb1;(obtain ⟨q0,q1,q2,q3,q4,q5,q6,q7⟩:=bC.cells8);have HCK:=hid hck;have BC1:=hid bC;have HB1:=hid B1;clear hb1 bC B1 hck;by_cases hz : pk = 0;all_goals (first|(subst hz)|(have hd : (pk != 0) = true:=(by simpa using hz);have HZ:=hid hz;clear hz)))|(go_at_call 58;first|((with_reducible refine (HT.out _ ?_).mono ?_);exact HB1.out;rintro e w2 ⟨rfl,hb2⟩;have HB2:=hid (belows HB1.out hb2 HB1.out.size);have bC:=BC1.out.below hb2 BC1.out.sz;have BC2:=hid bC;clear q0 q1 q2 q3 q4 q5 q6 q7;(obtain ⟨q0,q1,q2,q3,q4,q5,q6,q7⟩:=bC.cells8);clear hb2 bC)|((with_reducible refine (HU.out _ ?_).mono ?_);exact HB2.out;rintro e w3 ⟨rfl,hb3⟩;have HB3:=hid (belows HB2.out hb3 HB2.out.size);have bC:=BC2.out.below hb3 BC2.out.sz;have BC3:=hid bC;clear q0 q1 q2 q3 q4 q5 q6 q7;(obtain ⟨q0,q1,q2,q3,q4,q5,q6,q7⟩:=bC.cells8);clear hb3 bC))))
      rotate_left 1
      ·(go_ret;exact ⟨pk,CL0.out pk (HH.out pk pk HCK.out (by rw [if_pos HZ.out])) HZ.out,rfl,HB1.out⟩)
      have HX:=hid (HH.out 0 0 HCK.out (by rw [if_neg (by decide),if_neg (by decide),if_neg (by decide),if_neg (by decide),if_neg H3.out]))
      clear HH H3 HCK BC1 BC2 HB1 HB2 q0 q1 q2 q3 q4 q5 q6 q7 d1 d2
      go_loopw [6] (fun i wr=>∃ k : Nat,k ≤ c.fs.length ∧ i = .int .i64 k ∧ Below w3.heap.size w3 wr ∧ Hid (∀ j,j < k → Cf.FdIs c.pool c.fs j 0)) (fun i _=>c.fs.length - (intOf i).toNat)
      case atStart=>exact ⟨0,Nat.zero_le _,rfl,Below.refl _ _,fun j hj=>by omega⟩
      case round =>
       obtain ⟨k,hk,rfl,hbl,HAll⟩:=hrel
       have HJ:=hid hbl
       have hBr : Below w.heap.size w wr:=belows HB3.out hbl HB3.out.size
       have bC:=BC3.out.below hbl BC3.out.sz
       (obtain ⟨q0,q1,q2,q3,q4,q5,q6,q7⟩:=bC.cells8)
       by_cases hlt : k < c.fs.length
       ·obtain ⟨m,hx⟩ : ∃ x,c.fs[k]? = some x:=⟨c.fs[k],List.getElem?_eq_getElem hlt⟩
        have i1 : (k : Int) < (c.fs.length : Int):=by omega
        have HF:=hid (HFd.out k m hx wr hBr)
        clear hx bC hbl
        go_wp2_with (go_at_call 59;refine HF.out.mono ?_;rintro e w4 ⟨er,hR,rfl,hb4⟩;have HR:=hid hR;have HB4:=hid hb4;clear hb4;by_cases hz : er = 0;all_goals (first|(subst hz;clear hR)|(have hd : (er != 0) = true:=(by simpa using hz);have HZ:=hid hz;clear hz hR)))
        ·go_roundw
         case rel=>exact ⟨k + 1,by omega,by go_num,belows HJ.out HB4.out HJ.out.size,fun j hj=>by
          by_cases e : j = k
          ·subst e;exact HR.out
          ·exact HAll.out j (by omega)⟩
         case measure=>simp [intOf];omega
        ·go_ret
         exact ⟨er,CL1.out er HX.out (Cf.FstR.at HAll.out hlt HR.out HZ.out) HZ.out,rfl,belows hBr HB4.out hBr.size⟩
       ·obtain rfl : k = c.fs.length:=by omega
        have hki : ¬ ((c.fs.length : Int) < (c.fs.length : Int)):=by omega
        have HFA:=hid (Cf.FstR.all HAll.out)
        clear q0 q1 q2 q3 q4 q5 q6 bC hbl HAll hlt hk
        have bC:=BC3.out.below HJ.out BC3.out.sz
        (obtain ⟨q0,q1,q2,q3,q4,q5,q6,q7⟩:=bC.cells8)
        go_wp2_with fail
        go_simp
        obtain ⟨wo,rfl⟩ : ∃ wo,wo = wr:=⟨_,rfl⟩
        clear q0 q1 q2 q3 q4 q5 q6 q7 bC
        go_loopw [8] (fun i wr=>∃ k : Nat,k ≤ c.ms.length ∧ i = .int .i64 k ∧ Below w3.heap.size w3 wr ∧ Hid (∀ j,j < k → Cf.MeIs c.pool c.ms j 0)) (fun i _=>c.ms.length - (intOf i).toNat)
        case atStart=>exact ⟨0,Nat.zero_le _,rfl,HJ.out,fun j hj=>by omega⟩
        case round =>
         obtain ⟨k,hk,rfl,hbl,HAll⟩:=hrel
         have HJ2:=hid hbl
         have hBr : Below w.heap.size w wr:=belows HB3.out hbl HB3.out.size
         have bC:=BC3.out.below hbl BC3.out.sz
         (obtain ⟨q0,q1,q2,q3,q4,q5,q6,q7⟩:=bC.cells8)
         by_cases hlt : k < c.ms.length
         ·obtain ⟨m,hx⟩ : ∃ x,c.ms[k]? = some x:=⟨c.ms[k],List.getElem?_eq_getElem hlt⟩
          have i1 : (k : Int) < (c.ms.length : Int):=by omega
          have HF:=hid (HMe.out k m hx wr hBr)
          clear hx bC hbl
          go_wp2_with (go_at_call 60;refine HF.out.mono ?_;rintro e w4 ⟨er,hR,rfl,hb4⟩;have HR:=hid hR;have HB4:=hid hb4;clear hb4;by_cases hz : er = 0;all_goals (first|(subst hz;clear hR)|(have hd : (er != 0) = true:=(by simpa using hz);have HZ:=hid hz;clear hz hR)))
          ·go_roundw
           case rel=>exact ⟨k + 1,by omega,by go_num,belows HJ2.out HB4.out HJ2.out.size,fun j hj=>by
            by_cases e : j = k
            ·subst e;exact HR.out
            ·exact HAll.out j (by omega)⟩
           case measure=>simp [intOf];omega
          ·go_ret
           exact ⟨er,CL2.out er HX.out HFA.out (Cf.FstR.at HAll.out hlt HR.out HZ.out) HZ.out,rfl,belows hBr HB4.out hBr.size⟩
         ·obtain rfl : k = c.ms.length:=by omega
          have hki : ¬ ((c.ms.length : Int) < (c.ms.length : Int)):=by omega
          have HMA:=hid (Cf.FstR.all HAll.out)
          have HC2:=hid (HCo.out wr hBr)
          clear HAll bC hbl
          by_cases h0 : 0 < c.ms.length
          ·have d3 : decide (0 < (c.ms.length : Int)) = true:=decide_eq_true (by omega)
           have d3' : decide (0 < c.ms.length) = true:=decide_eq_true h0
           by_cases h5 : cx = 0
           ·subst h5
            have HC3:=hid (CL3.out 43 HX.out HFA.out HMA.out (by have:=HCn.out;rwa [if_pos ⟨by decide,h0⟩] at this))
            clear h0
            go_wp2_with (go_at_call 50;refine HC2.out.mono ?_;rintro e w5 ⟨rfl,hb5⟩)
            go_ret
            exact ⟨43,HC3.out,rfl,belows hBr hb5 hBr.size⟩
           ·have d4 : ((cx : Int) == 0) = false:=by simp;omega
            have HC3:=hid (CL3.out 0 HX.out HFA.out HMA.out (by have:=HCn.out;rwa [if_neg (by rintro ⟨h,-⟩;simp at h;exact h5 h)] at this))
            clear h0 h5
            go_wp2_with (go_at_call 50;refine HC2.out.mono ?_;rintro e w5 ⟨rfl,hb5⟩)
            go_ret
            exact ⟨0,HC3.out,rfl,belows hBr hb5 hBr.size⟩
          ·have d3 : decide (0 < (c.ms.length : Int)) = false:=decide_eq_false (by omega)
           have d3' : decide (0 < c.ms.length) = false:=decide_eq_false h0
           have HC3:=hid (CL3.out 0 HX.out HFA.out HMA.out (by have:=HCn.out;rwa [if_neg (by rintro ⟨-,h⟩;exact h0 h)] at this))
           clear h0
           go_wp2_with fail
           go_ret
           exact ⟨0,HC3.out,rfl,hBr⟩
    ·have hd2 : (u != 0) = true:=by simpa using h2
     have H2:=hid h2
     clear h2
     (go_enter Tryz.func18,Tryz.ntmps18;go_wp2_with (first|(go_at_call 38;refine (HV.out _).mono ?_;rintro e w' ⟨rfl,rfl⟩)|(go_at_call 57;refine (HP.out _ BLw).mono ?_;rintro e w1 ⟨pk,hck,rfl,hb1⟩;obtain ⟨bC,hzC,B1⟩:=belows1 hb1;(obtain ⟨q0,q1,q2,q3,q4,q5,q6,q7⟩:=bC.cells8);have HCK:=hid hck;have BC1:=hid bC;have HB1:=hid B1;clear hb1 bC B1 hck;by_cases hz : pk = 0;all_goals (first|(subst hz)|(have hd : (pk != 0) = true:=(by simpa using hz);have HZ:=hid hz;clear hz)))|(go_at_call 58;first|((with_reducible refine (HT.out _ ?_).mono ?_);exact HB1.out;rintro e w2 ⟨rfl,hb2⟩;have HB2:=hid (belows HB1.out hb2 HB1.out.size);have bC:=BC1.out.below hb2 BC1.out.sz;have BC2:=hid bC;clear q0 q1 q2 q3 q4 q5 q6 q7;(obtain ⟨q0,q1,q2,q3,q4,q5,q6,q7⟩:=bC.cells8);clear hb2 bC)|((with_reducible refine (HU.out _ ?_).mono ?_);exact HB2.out;rintro e w3 ⟨rfl,hb3⟩;have HB3:=hid (belows HB2.out hb3 HB2.out.size);have bC:=BC2.out.below hb3 BC2.out.sz;have BC3:=hid bC;clear q0 q1 q2 q3 q4 q5 q6 q7;(obtain ⟨q0,q1,q2,q3,q4,q5,q6,q7⟩:=bC.cells8);clear hb3 bC))))
     ·go_ret
      exact ⟨u,CL0.out u (HH.out u 0 HCK.out (by rw [if_neg (by decide),if_neg (by decide),if_neg (by decide),if_pos H2.out])) H2.out,rfl,HB3.out⟩
     ·(go_ret;exact ⟨pk,CL0.out pk (HH.out pk pk HCK.out (by rw [if_pos HZ.out])) HZ.out,rfl,HB1.out⟩)
   ·have hd2 : (t != 0) = true:=by simpa using h1
    have H1:=hid h1
    clear h1
    (go_enter Tryz.func18,Tryz.ntmps18;go_wp2_with (first|(go_at_call 38;refine (HV.out _).mono ?_;rintro e w' ⟨rfl,rfl⟩)|(go_at_call 57;refine (HP.out _ BLw).mono ?_;rintro e w1 ⟨pk,hck,rfl,hb1⟩;obtain ⟨bC,hzC,B1⟩:=belows1 hb1;(obtain ⟨q0,q1,q2,q3,q4,q5,q6,q7⟩:=bC.cells8);have HCK:=hid hck;have BC1:=hid bC;have HB1:=hid B1;clear hb1 bC B1 hck;by_cases hz : pk = 0;all_goals (first|(subst hz)|(have hd : (pk != 0) = true:=(by simpa using hz);have HZ:=hid hz;clear hz)))|(go_at_call 58;first|((with_reducible refine (HT.out _ ?_).mono ?_);exact HB1.out;rintro e w2 ⟨rfl,hb2⟩;have HB2:=hid (belows HB1.out hb2 HB1.out.size);have bC:=BC1.out.below hb2 BC1.out.sz;have BC2:=hid bC;clear q0 q1 q2 q3 q4 q5 q6 q7;(obtain ⟨q0,q1,q2,q3,q4,q5,q6,q7⟩:=bC.cells8);clear hb2 bC)|((with_reducible refine (HU.out _ ?_).mono ?_);exact HB2.out;rintro e w3 ⟨rfl,hb3⟩;have HB3:=hid (belows HB2.out hb3 HB2.out.size);have bC:=BC2.out.below hb3 BC2.out.sz;have BC3:=hid bC;clear q0 q1 q2 q3 q4 q5 q6 q7;(obtain ⟨q0,q1,q2,q3,q4,q5,q6,q7⟩:=bC.cells8);clear hb3 bC))))
    ·go_ret
     exact ⟨t,CL0.out t (HH.out t 0 HCK.out (by rw [if_neg (by decide),if_neg (by decide),if_pos H1.out])) H1.out,rfl,HB2.out⟩
    ·(go_ret;exact ⟨pk,CL0.out pk (HH.out pk pk HCK.out (by rw [if_pos HZ.out])) HZ.out,rfl,HB1.out⟩)
end Go.Proofs.YtnojgiflgmnjlaaGreatDoor
