/- Own texts for the claim, part 19. -/
import Derived.Test.YtnojgiflgmnjlaaGreatDoorZD18
set_option maxRecDepth 100000
namespace Go.Proofs.YtnojgiflgmnjlaaGreatDoor
open Go.RowKit
theorem bP5lt {W : World} {b : Nat} {cs : Array Value} {T : TypeId} (h : L3.BX W b cs T) : b < W.heap.size:=h.sz
theorem OMb.ren {w : World} {base : Nat} {m : Cf.Mb} {cv hv : Value} (h : OMb w base (mL m cv hv) m) (a b : Int) : OMb w base (mL { m with nm:=a,ds:=b } cv hv) { m with nm:=a,ds:=b }:=by
 obtain ⟨cv',hv',he,h⟩:=h
 obtain ⟨rfl,rfl⟩ : cv = cv' ∧ hv = hv':=by simpa [mL] using he
 exact ⟨_,_,rfl,h⟩
def NdPost (c : Cf.Cl) (m : Cf.Mb) (a b : ByteArray) (w : World) (e : Ending) (w' : World) : Prop :=
 ∃ l1 i1 e1 l2 i2 e2,AdS c.pool 0 ⟨1,a,0,0,0⟩ l1 i1 e1 ∧ AdS l1 e1 ⟨1,b,0,0,0⟩ l2 i2 e2 ∧
  ((e2 ≠ 0 ∧ e = .returned (.tuple #[K0V,mbV Cf.M0 (.slice none 0 0) (.slice none 0 0),.int .i64 e2])) ∨
   (e2 = 0 ∧ ∃ vs' cv' hv',e = .returned (.tuple #[.agg vs',mbV { m with nm:=(i1 : Nat),ds:=(i2 : Nat) } cv' hv',.int .i64 0]) ∧ OCl w' w.heap.size vs' { c with pool:=l2 } ∧ OMb w' w.heap.size (mL { m with nm:=(i1 : Nat),ds:=(i2 : Nat) } cv' hv') { m with nm:=(i1 : Nat),ds:=(i2 : Nat) } ∧ PoolSz l2 ∧ ApV vs')) ∧
  Below w.heap.size w w'
set_option maxHeartbeats 4000000 in
theorem named_any (c : Cf.Cl) (vs : Array Value) (m : Cf.Mb) (cv hv : Value) (a b : ByteArray) (w : World) (ht : L3.Tabs w) (h : ClR w vs c) (hs : Cf.Szc c) (hz : PoolSz c.pool) (hB : L3.Bs w.heap.size w cv m.code) (hH : Kit.IsS 4 w hv m.hs.length (m.hs.flatMap hL))
  (hmc : m.code.length ≤ 140737488355328) (hmh : m.hs.length * 32 ≤ 140737488355328) (ha : a.size ≤ 140737488355328) (hb : b.size ≤ 140737488355328) :
  Calls Tryz.prog 65 #[.agg vs,mbV m cv hv,.string a,.string b] w (NdPost c m a b w):=by
 have HT:=hid ht
 have HCm:=hid (fun W (k : Below w.heap.size w W)=>cloneMember_any m cv hv W ((hB.below k (Nat.le_refl _)).mono k.size) (hH.below k (Nat.le_refl _)) hmc hmh)
 obtain ⟨pv,fv,mv,rfl,hp,hf,hm⟩:=h
 obtain ⟨pa,pc,rfl⟩:=hp.len
 obtain ⟨fa,fc,rfl⟩:=hf.len
 obtain ⟨ma2,mc,rfl⟩:=hm.len
 obtain ⟨xa,xc,rfl⟩:=hB.len
 obtain ⟨ya,yc,rfl⟩:=hH.len
 have HIn:=hid (And.intro hp (And.intro hf hm))
 have HSz:=hid hs
 have HPz:=hid hz
 have HAa:=hid ha
 have HBb:=hid hb
 obtain ⟨mi,ma,P,ac,th,su,fs,ms⟩:=c
 obtain ⟨mac,mnm,mds,mst,mlc,co,hs9⟩:=m
 unfold mbV at HCm ⊢
 dsimp only at HCm HIn HSz HPz ⊢
 clear ht hp hf hm hB hH hmc hmh ha hb hs hz
 go_enter Tryz.func65,Tryz.ntmps65
 go_wp2_with fail
 obtain ⟨W1,hW1⟩ : ∃ W1,W1 = (((((w.alloc (.cells #[.int .i64 mi,.int .i64 ma,.slice pa P.length pc,.int .i64 ac,.int .i64 th,.int .i64 su,.slice fa fs.length fc,.slice ma2 ms.length mc] 26)).alloc (.cells #[.int .i64 mac,.int .i64 mnm,.int .i64 mds,.int .i64 mst,.int .i64 mlc,.slice xa co.length xc,.slice ya hs9.length yc] 42)).alloc (.cells #[.int .i64 0,.int .i64 0,.slice none 0 0,.int .i64 0,.int .i64 0,.int .i64 0,.slice none 0 0,.slice none 0 0] 26)).alloc (.cells #[.int .i64 0,.int .i64 0,.int .i64 0,.int .i64 0,.int .i64 0,.slice none 0 0,.slice none 0 0] 42)).alloc (.cells #[.slice pa P.length pc,.int .i64 0] 95)):=⟨_,rfl⟩
 obtain ⟨bC,bM,bR,bS,bP,hzW,B1⟩:=five hW1
 rw [← hW1]
 have hBd:=Bd.start HIn.out.1 HPz.out B1 bP (by omega)
 have HB1:=hid B1
 have HBd1:=hid hBd
 have BC1:=hid bC
 have BM1:=hid bM
 have BR1:=hid bR
 have BS1:=hid bS
 have HT1:=hid (HT.out.below B1 HT.out.size)
 clear hW1 bC bM bR bS bP hBd B1
 go_wp2_with (first|(go_at_call 78;refine (HCm.out _ HB1.out).mono ?_;rintro e w2 ⟨cv2,hv2,rfl,oM,hb2⟩;obtain ⟨cv3,hv3,he3,oc,oh,hl1,hl2⟩:=oM;obtain ⟨rfl,rfl⟩ : cv2 = cv3 ∧ hv2 = hv3:=(by simpa [mL] using he3);obtain ⟨xa2,xc2,rfl⟩:=L3.own_form oc;obtain ⟨ya2,yc2,rfl⟩:=L3.own_form oh;have OM2:=hid (show OMb w2 W1.heap.size (mL ⟨mac,mnm,mds,mst,mlc,co,hs9⟩ (.slice xa2 co.length xc2) (.slice ya2 hs9.length yc2)) ⟨mac,mnm,mds,mst,mlc,co,hs9⟩ from ⟨_,_,rfl,oc,oh,hl1,hl2⟩);have HB2:=hid hb2;have bM:=BM1.out.below hb2 BM1.out.sz;have m0:=bM.cell 0;have fm0:=bM.frozen 0;have m1:=bM.cell 1;have fm1:=bM.frozen 1;have m2:=bM.cell 2;have fm2:=bM.frozen 2;have m3:=bM.cell 3;have fm3:=bM.frozen 3;have m4:=bM.cell 4;have fm4:=bM.frozen 4;have m5:=bM.cell 5;have fm5:=bM.frozen 5;have m6:=bM.cell 6;have fm6:=bM.frozen 6;simp at m0 m1 m2 m3 m4 m5 m6;clear bM hb2 oc oh he3)|(go_at_call 69;have _g:=HB2;(fail_if_success (have _g:=HS1));have g2:=grown7 w2 (w.heap.size + 1) (.int .i64 mac) (.int .i64 mnm) (.int .i64 mds) (.int .i64 mst) (.int .i64 mlc) (.slice xa2 co.length xc2) (.slice ya2 hs9.length yc2);have bM:=put7 (BM1.out.below HB2.out BM1.out.sz) rfl (.int .i64 mac) (.int .i64 mnm) (.int .i64 mds) (.int .i64 mst) (.int .i64 mlc) (.slice xa2 co.length xc2) (.slice ya2 hs9.length yc2);obtain ⟨W2,hW2⟩ : ∃ W,W = (((((((w2.setCell ⟨w.heap.size + 1,0,none⟩ (.int .i64 mac)).setCell ⟨w.heap.size + 1,1,none⟩ (.int .i64 mnm)).setCell ⟨w.heap.size + 1,2,none⟩ (.int .i64 mds)).setCell ⟨w.heap.size + 1,3,none⟩ (.int .i64 mst)).setCell ⟨w.heap.size + 1,4,none⟩ (.int .i64 mlc)).setCell ⟨w.heap.size + 1,5,none⟩ (.slice xa2 co.length xc2)).setCell ⟨w.heap.size + 1,6,none⟩ (.slice ya2 hs9.length yc2)):=⟨_,rfl⟩;rw [← hW2] at g2 bM ⊢;have bC:=(BC1.out.below HB2.out BC1.out.sz).grown g2 (fun e=>by (have:=Option.some.inj e;omega));have bR:=(BR1.out.below HB2.out BR1.out.sz).grown g2 (fun e=>by (have:=Option.some.inj e;omega));have bS:=(BS1.out.below HB2.out BS1.out.sz).grown g2 (fun e=>by (have:=Option.some.inj e;omega));have hBd:=(HBd1.out.below HB2.out).grown g2 (by omega) (by omega);have oM:=OM2.out.grown g2 (by omega);have B2 : Below w.heap.size w W2:=nwB (belows HB1.out HB2.out HB1.out.size) g2 ⟨by omega,by (have:=HB1.out.size;have:=HB2.out.size;omega)⟩;refine (btext_any w.heap.size (w.heap.size + 1 + 1 + 1 + 1) P 0 a W2 (HT.out.below B2 HT.out.size) hBd HAa.out).mono ?_;rintro e w3 ⟨l1,i1,e1,hS1,rfl,hg3,hB3⟩;have HS1:=hid hS1;have HBd3:=hid hB3;have bC:=bC.grown hg3 (fun e=>by (have:=Option.some.inj e;omega));have bM:=bM.grown hg3 (fun e=>by (have:=Option.some.inj e;omega));have bR:=bR.grown hg3 (fun e=>by (have:=Option.some.inj e;omega));have bS:=bS.grown hg3 (fun e=>by (have:=Option.some.inj e;omega));have oM:=oM.grown hg3 (by omega);have B3 : Below w.heap.size w w3:=nwB B2 hg3 ⟨by omega,B2.size⟩;have HB3:=hid B3;have BC3:=hid bC;have BM3:=hid bM;have BR3:=hid bR;have BS3:=hid bS;have OM3:=hid oM;clear m0 m1 m2 m3 m4 m5 m6 fm0 fm1 fm2 fm3 fm4 fm5 fm6;have m1:=bM.cell 1;have fm1:=bM.frozen 1;simp at m1;clear hW2 g2 bM bC bR bS hBd oM B2 B3 hS1 hg3 hB3)|(go_at_call 69;have _g:=HS1;(fail_if_success (have _g:=HS2));have g2:=L3.set_grown w3 (w.heap.size + 1) 1 (.int .i64 (i1 : Nat));have bM:=BM3.out.set 1 (.int .i64 (i1 : Nat));obtain ⟨W2,hW2⟩ : ∃ W,W = w3.setCell ⟨w.heap.size + 1,1,none⟩ (.int .i64 (i1 : Nat)):=⟨_,rfl⟩;rw [← hW2] at g2 bM ⊢;have bC:=BC3.out.grown g2 (fun e=>by (have:=Option.some.inj e;omega));have bR:=BR3.out.grown g2 (fun e=>by (have:=Option.some.inj e;omega));have bS:=BS3.out.grown g2 (fun e=>by (have:=Option.some.inj e;omega));have hBd:=HBd3.out.grown g2 (by omega) (by omega);have oM:=OM3.out.grown g2 (by omega);have B2 : Below w.heap.size w W2:=nwB HB3.out g2 ⟨by omega,HB3.out.size⟩;refine (btext_any w.heap.size (w.heap.size + 1 + 1 + 1 + 1) l1 e1 b W2 (HT.out.below B2 HT.out.size) hBd HBb.out).mono ?_;rintro e w4 ⟨l2,i2,e2,hS2,rfl,hg4,hB4⟩;have HS2:=hid hS2;have HBd4:=hid hB4;have bC:=bC.grown hg4 (fun e=>by (have:=Option.some.inj e;omega));have bM:=bM.grown hg4 (fun e=>by (have:=Option.some.inj e;omega));have bR:=bR.grown hg4 (fun e=>by (have:=Option.some.inj e;omega));have bS:=bS.grown hg4 (fun e=>by (have:=Option.some.inj e;omega));have oM:=oM.grown hg4 (by omega);have B4 : Below w.heap.size w w4:=nwB B2 hg4 ⟨by omega,B2.size⟩;have HB4:=hid B4;have BC4:=hid bC;have BM4:=hid bM;have BR4:=hid bR;have BS4:=hid bS;have OM4:=hid oM;clear m1 fm1;have m2:=bM.cell 2;have fm2:=bM.frozen 2;simp at m2;obtain ⟨ba,bcap,d0,d1,hSt⟩:=bd_cells hB4;have HSt:=hid hSt;clear hSt;have c2:=bC.cell 2;have fc2:=bC.frozen 2;simp at c2;clear hW2 g2 bM bC bR bS hBd oM B2 B4 hS2 hg4 hB4;by_cases hz : e2 = 0;all_goals (first|subst hz|(have hdd : (e2 != 0) = true:=(by simpa using hz);have HZ:=hid hz;clear hz))))
 ·have g5:=L3.set_grown w4 (w.heap.size + 1) 2 (.int .i64 (i2 : Nat))
  have g6:=L3.set_grown (w4.setCell ⟨w.heap.size + 1,2,none⟩ (.int .i64 (i2 : Nat))) w.heap.size 2 (.slice ba l2.length bcap)
  have bC:=(BC4.out.grown g5 (fun e=>by (have:=Option.some.inj e;omega))).set 2 (.slice ba l2.length bcap)
  have bM:=(BM4.out.set 2 (.int .i64 (i2 : Nat))).grown g6 (fun e=>by (have:=Option.some.inj e;omega))
  have bR:=(BR4.out.grown g5 (fun e=>by (have:=Option.some.inj e;omega))).grown g6 (fun e=>by (have:=Option.some.inj e;omega))
  have bS:=(BS4.out.grown g5 (fun e=>by (have:=Option.some.inj e;omega))).grown g6 (fun e=>by (have:=Option.some.inj e;omega))
  have oM:=(OM4.out.grown g5 (by omega)).grown g6 (by omega)
  have B5 : Below w.heap.size w ((w4.setCell ⟨w.heap.size + 1,2,none⟩ (.int .i64 (i2 : Nat))).setCell ⟨w.heap.size,2,none⟩ (.slice ba l2.length bcap)):=nwB (nwB HB4.out g5 ⟨by omega,HB4.out.size⟩) g6 ⟨Nat.le_refl _,by rw [World.size_setCell];exact HB4.out.size⟩
  have hP5:=HSt.out _ (((Kx.refl w.heap.size (w.heap.size + 1 + 1 + 1 + 1) w4).set ⟨by omega,by omega⟩ (.int .i64 (i2 : Nat)) (r:=w.heap.size + 1) (j:=2)).set ⟨Nat.le_refl _,by omega⟩ (.slice ba l2.length bcap) (r:=w.heap.size) (j:=2))
  obtain ⟨W5,hW5⟩ : ∃ W,W = (w4.setCell ⟨w.heap.size + 1,2,none⟩ (.int .i64 (i2 : Nat))).setCell ⟨w.heap.size,2,none⟩ (.slice ba l2.length bcap):=⟨_,rfl⟩
  rw [← hW5] at bC bM bR bS oM B5 hP5 ⊢
  simp only [List.setIfInBounds_toArray,List.set_cons_zero,List.set_cons_succ] at bC bM
  have HR5:=hid (show ClR W5 #[.int .i64 mi,.int .i64 ma,.slice ba l2.length bcap,.int .i64 ac,.int .i64 th,.int .i64 su,.slice fa fs.length fc,.slice ma2 ms.length mc] ⟨mi,ma,l2,ac,th,su,fs,ms⟩ from ⟨_,_,_,rfl,hP5,HIn.out.2.1.below B5 (Nat.le_refl _),HIn.out.2.2.below B5 (Nat.le_refl _)⟩)
  have HSz5:=hid (show Cf.Szc ⟨mi,ma,l2,ac,th,su,fs,ms⟩ from ⟨HBd4.out.sz.1,HSz.out.2⟩)
  have HCl:=hid (fun W (k : Below W5.heap.size W5 W)=>clone_any ⟨mi,ma,l2,ac,th,su,fs,ms⟩ _ W (HR5.out.below k (Nat.le_refl _)) HSz5.out)
  have cfC:=fun (u : Value) (w : World)=>(show (callFunc 33 #[u]).run Tryz.prog w = .ok (.enter 33 #[u]) w by kernel_rfl)
  have BM5:=hid bM
  have BR5:=hid bR
  have BS5:=hid bS
  have OM5:=hid oM
  have HB5:=hid B5
  have hzb5:=bP5lt bS
  obtain ⟨c0,c1,c2,c3,c4,c5,c6,c7⟩:=bC.cells8
  obtain ⟨n0,n1,n2,n3,n4,n5,n6⟩:=bM.cells7
  clear hW5 bC bM bR bS oM B5 hP5 g5 g6 d0 d1 m2 fm2
  go_region_law (refine Kit.step_call1 rfl 33 (.tmp 33) 26 rfl _ rfl (cfC _ _) _ (HCl.out _ BLw) ?_;rintro e w9 ⟨vs9,rfl,oC,hap,hb9⟩;refine ⟨_,rfl,?_⟩;have B9 : Below W5.heap.size W5 w9:=(by first|exact hb9|exact below_undrew hb9);have oC:=hid (oC.mono (base':=W5.heap.size) (by simp));obtain ⟨pv9,fv9,mv9,rfl,o1,o2,o3⟩:=oC.out;obtain ⟨pa9,pc9,rfl⟩:=L3.own_form o1;obtain ⟨fa9,fc9,rfl⟩:=OMs.form o2;obtain ⟨ma9,mc9,rfl⟩:=OMs.form o3;clear o1 o2 o3;have bM9:=BM5.out.below B9 BM5.out.sz;have bR9:=BR5.out.below B9 BR5.out.sz;have bS9:=BS5.out.below B9 BS5.out.sz;clear n0 n1 n2 n3 n4 n5 n6;obtain ⟨n0,n1,n2,n3,n4,n5,n6⟩:=bM9.cells7;have r0:=bR9.cell 0;have fr0:=bR9.frozen 0;have r1:=bR9.cell 1;have fr1:=bR9.frozen 1;have r2:=bR9.cell 2;have fr2:=bR9.frozen 2;have r3:=bR9.cell 3;have fr3:=bR9.frozen 3;have r4:=bR9.cell 4;have fr4:=bR9.frozen 4;have r5:=bR9.cell 5;have fr5:=bR9.frozen 5;have r6:=bR9.cell 6;have fr6:=bR9.frozen 6;have r7:=bR9.cell 7;have fr7:=bR9.frozen 7;simp at r0 r1 r2 r3 r4 r5 r6 r7;have s0:=bS9.cell 0;have fs0:=bS9.frozen 0;have s1:=bS9.cell 1;have fs1:=bS9.frozen 1;have s2:=bS9.cell 2;have fs2:=bS9.frozen 2;have s3:=bS9.cell 3;have fs3:=bS9.frozen 3;have s4:=bS9.cell 4;have fs4:=bS9.frozen 4;have s5:=bS9.cell 5;have fs5:=bS9.frozen 5;have s6:=bS9.cell 6;have fs6:=bS9.frozen 6;simp at s0 s1 s2 s3 s4 s5 s6)
  all_goals
   have g8:=grown8 w9 (w.heap.size + 1 + 1) (.int .i64 mi) (.int .i64 ma) (.slice pa9 l2.length pc9) (.int .i64 ac) (.int .i64 th) (.int .i64 su) (.slice fa9 fs.length fc9) (.slice ma9 ms.length mc9)
   have g7:=grown7 ((((((((w9.setCell ⟨w.heap.size + 1 + 1,0,none⟩ (.int .i64 mi)).setCell ⟨w.heap.size + 1 + 1,1,none⟩ (.int .i64 ma)).setCell ⟨w.heap.size + 1 + 1,2,none⟩ (.slice pa9 l2.length pc9)).setCell ⟨w.heap.size + 1 + 1,3,none⟩ (.int .i64 ac)).setCell ⟨w.heap.size + 1 + 1,4,none⟩ (.int .i64 th)).setCell ⟨w.heap.size + 1 + 1,5,none⟩ (.int .i64 su)).setCell ⟨w.heap.size + 1 + 1,6,none⟩ (.slice fa9 fs.length fc9)).setCell ⟨w.heap.size + 1 + 1,7,none⟩ (.slice ma9 ms.length mc9)) (w.heap.size + 1 + 1 + 1) (.int .i64 mac) (.int .i64 (i1 : Nat)) (.int .i64 (i2 : Nat)) (.int .i64 mst) (.int .i64 mlc) (.slice xa2 co.length xc2) (.slice ya2 hs9.length yc2)
   have bR:=(put8 bR9 rfl (.int .i64 mi) (.int .i64 ma) (.slice pa9 l2.length pc9) (.int .i64 ac) (.int .i64 th) (.int .i64 su) (.slice fa9 fs.length fc9) (.slice ma9 ms.length mc9)).grown g7 (fun e=>by (have:=Option.some.inj e;omega))
   have bS:=put7 (bS9.grown g8 (fun e=>by (have:=Option.some.inj e;omega))) rfl (.int .i64 mac) (.int .i64 (i1 : Nat)) (.int .i64 (i2 : Nat)) (.int .i64 mst) (.int .i64 mlc) (.slice xa2 co.length xc2) (.slice ya2 hs9.length yc2)
   have oC:=((oC.out.grown g8 (by omega)).grown g7 (by omega)).mono (base':=w.heap.size) (by omega)
   have oM:=((((OM5.out.below B9 (Nat.le_refl _)).grown g8 (by omega)).grown g7 (by omega)).mono (base':=w.heap.size) (by omega)).ren (i1 : Nat) (i2 : Nat)
   have B10:=nwB (nwB (belows HB5.out B9 HB5.out.size) g8 ⟨by omega,by (have:=HB5.out.size;have:=B9.size;omega)⟩) g7 ⟨by omega,by (have:=HB5.out.size;have:=B9.size;have:=g8.size;omega)⟩
   clear r0 r1 r2 r3 r4 r5 r6 r7 s0 s1 s2 s3 s4 s5 s6 n0 n1 n2 n3 n4 n5 n6 fr0 fr1 fr2 fr3 fr4 fr5 fr6 fr7 fs0 fs1 fs2 fs3 fs4 fs5 fs6
   obtain ⟨W10,hW10⟩ : ∃ W,W = (((((((((((((((w9.setCell ⟨w.heap.size + 1 + 1,0,none⟩ (.int .i64 mi)).setCell ⟨w.heap.size + 1 + 1,1,none⟩ (.int .i64 ma)).setCell ⟨w.heap.size + 1 + 1,2,none⟩ (.slice pa9 l2.length pc9)).setCell ⟨w.heap.size + 1 + 1,3,none⟩ (.int .i64 ac)).setCell ⟨w.heap.size + 1 + 1,4,none⟩ (.int .i64 th)).setCell ⟨w.heap.size + 1 + 1,5,none⟩ (.int .i64 su)).setCell ⟨w.heap.size + 1 + 1,6,none⟩ (.slice fa9 fs.length fc9)).setCell ⟨w.heap.size + 1 + 1,7,none⟩ (.slice ma9 ms.length mc9)).setCell ⟨w.heap.size + 1 + 1 + 1,0,none⟩ (.int .i64 mac)).setCell ⟨w.heap.size + 1 + 1 + 1,1,none⟩ (.int .i64 (i1 : Nat))).setCell ⟨w.heap.size + 1 + 1 + 1,2,none⟩ (.int .i64 (i2 : Nat))).setCell ⟨w.heap.size + 1 + 1 + 1,3,none⟩ (.int .i64 mst)).setCell ⟨w.heap.size + 1 + 1 + 1,4,none⟩ (.int .i64 mlc)).setCell ⟨w.heap.size + 1 + 1 + 1,5,none⟩ (.slice xa2 co.length xc2)).setCell ⟨w.heap.size + 1 + 1 + 1,6,none⟩ (.slice ya2 hs9.length yc2)):=⟨_,rfl⟩
   rw [← hW10] at bR bS oC oM B10 ⊢
   clear hW10 g8 g7
   obtain ⟨r0,r1,r2,r3,r4,r5,r6,r7⟩:=bR.cells8
   obtain ⟨s0,s1,s2,s3,s4,s5,s6⟩:=bS.cells7
   go_wp2
   exact bodyPost_ret (v:=.tuple #[.agg #[.int .i64 mi,.int .i64 ma,.slice pa9 l2.length pc9,.int .i64 ac,.int .i64 th,.int .i64 su,.slice fa9 fs.length fc9,.slice ma9 ms.length mc9],.agg #[.int .i64 mac,.int .i64 (i1 : Nat),.int .i64 (i2 : Nat),.int .i64 mst,.int .i64 mlc,.slice xa2 co.length xc2,.slice ya2 hs9.length yc2],.int .i64 0]) (by simp [results,Tryz.results65,go_sem,r0,r1,r2,r3,r4,r5,r6,r7,s0,s1,s2,s3,s4,s5,s6]) rfl (by unfold NdPost;exact ⟨l1,i1,e1,l2,i2,0,HS1.out,HS2.out,.inr ⟨rfl,_,_,_,rfl,oC,oM,HBd4.out.sz,hap⟩,B10⟩)
 ·have g5:=L3.set_grown w4 (w.heap.size + 1) 2 (.int .i64 (i2 : Nat))
  have bR:=BR4.out.grown g5 (fun e=>by (have:=Option.some.inj e;omega))
  have bS:=BS4.out.grown g5 (fun e=>by (have:=Option.some.inj e;omega))
  have B5 : Below w.heap.size w (w4.setCell ⟨w.heap.size + 1,2,none⟩ (.int .i64 (i2 : Nat))):=nwB HB4.out g5 ⟨by omega,HB4.out.size⟩
  have d15:=(World.cell?_of_block (a:=⟨w.heap.size + 1 + 1 + 1 + 1,1,none⟩) (g5.block (w.heap.size + 1 + 1 + 1 + 1) HBd4.out.lt (fun e=>by (have:=Option.some.inj e;omega)))).trans d1
  obtain ⟨W5,hW5⟩ : ∃ W,W = w4.setCell ⟨w.heap.size + 1,2,none⟩ (.int .i64 (i2 : Nat)):=⟨_,rfl⟩
  rw [← hW5] at bR bS B5 d15 ⊢
  have r0:=bR.cell 0;have fr0:=bR.frozen 0;have r1:=bR.cell 1;have fr1:=bR.frozen 1;have r2:=bR.cell 2;have fr2:=bR.frozen 2;have r3:=bR.cell 3;have fr3:=bR.frozen 3;have r4:=bR.cell 4;have fr4:=bR.frozen 4;have r5:=bR.cell 5;have fr5:=bR.frozen 5;have r6:=bR.cell 6;have fr6:=bR.frozen 6;have r7:=bR.cell 7;have fr7:=bR.frozen 7;simp at r0 r1 r2 r3 r4 r5 r6 r7
  have s0:=bS.cell 0;have fs0:=bS.frozen 0;have s1:=bS.cell 1;have fs1:=bS.frozen 1;have s2:=bS.cell 2;have fs2:=bS.frozen 2;have s3:=bS.cell 3;have fs3:=bS.frozen 3;have s4:=bS.cell 4;have fs4:=bS.frozen 4;have s5:=bS.cell 5;have fs5:=bS.frozen 5;have s6:=bS.cell 6;have fs6:=bS.frozen 6;simp at s0 s1 s2 s3 s4 s5 s6
  clear hW5 g5 d0 d1 m2 fm2
  go_region
  all_goals
   have g8:=grown8 W5 (w.heap.size + 1 + 1) (.int .i64 0) (.int .i64 0) (.slice none 0 0) (.int .i64 0) (.int .i64 0) (.int .i64 0) (.slice none 0 0) (.slice none 0 0)
   have g7:=grown7 ((((((((W5.setCell ⟨w.heap.size + 1 + 1,0,none⟩ (.int .i64 0)).setCell ⟨w.heap.size + 1 + 1,1,none⟩ (.int .i64 0)).setCell ⟨w.heap.size + 1 + 1,2,none⟩ (.slice none 0 0)).setCell ⟨w.heap.size + 1 + 1,3,none⟩ (.int .i64 0)).setCell ⟨w.heap.size + 1 + 1,4,none⟩ (.int .i64 0)).setCell ⟨w.heap.size + 1 + 1,5,none⟩ (.int .i64 0)).setCell ⟨w.heap.size + 1 + 1,6,none⟩ (.slice none 0 0)).setCell ⟨w.heap.size + 1 + 1,7,none⟩ (.slice none 0 0)) (w.heap.size + 1 + 1 + 1) (.int .i64 0) (.int .i64 0) (.int .i64 0) (.int .i64 0) (.int .i64 0) (.slice none 0 0) (.slice none 0 0)
   have bR:=(put8 bR rfl (.int .i64 0) (.int .i64 0) (.slice none 0 0) (.int .i64 0) (.int .i64 0) (.int .i64 0) (.slice none 0 0) (.slice none 0 0)).grown g7 (fun e=>by (have:=Option.some.inj e;omega))
   have bS:=put7 (bS.grown g8 (fun e=>by (have:=Option.some.inj e;omega))) rfl (.int .i64 0) (.int .i64 0) (.int .i64 0) (.int .i64 0) (.int .i64 0) (.slice none 0 0) (.slice none 0 0)
   have B10:=nwB (nwB B5 g8 ⟨by omega,B5.size⟩) g7 ⟨by omega,by (have:=B5.size;have:=g8.size;omega)⟩
   clear r0 r1 r2 r3 r4 r5 r6 r7 s0 s1 s2 s3 s4 s5 s6 fr0 fr1 fr2 fr3 fr4 fr5 fr6 fr7 fs0 fs1 fs2 fs3 fs4 fs5 fs6
   obtain ⟨W10,hW10⟩ : ∃ W,W = (((((((((((((((W5.setCell ⟨w.heap.size + 1 + 1,0,none⟩ (.int .i64 0)).setCell ⟨w.heap.size + 1 + 1,1,none⟩ (.int .i64 0)).setCell ⟨w.heap.size + 1 + 1,2,none⟩ (.slice none 0 0)).setCell ⟨w.heap.size + 1 + 1,3,none⟩ (.int .i64 0)).setCell ⟨w.heap.size + 1 + 1,4,none⟩ (.int .i64 0)).setCell ⟨w.heap.size + 1 + 1,5,none⟩ (.int .i64 0)).setCell ⟨w.heap.size + 1 + 1,6,none⟩ (.slice none 0 0)).setCell ⟨w.heap.size + 1 + 1,7,none⟩ (.slice none 0 0)).setCell ⟨w.heap.size + 1 + 1 + 1,0,none⟩ (.int .i64 0)).setCell ⟨w.heap.size + 1 + 1 + 1,1,none⟩ (.int .i64 0)).setCell ⟨w.heap.size + 1 + 1 + 1,2,none⟩ (.int .i64 0)).setCell ⟨w.heap.size + 1 + 1 + 1,3,none⟩ (.int .i64 0)).setCell ⟨w.heap.size + 1 + 1 + 1,4,none⟩ (.int .i64 0)).setCell ⟨w.heap.size + 1 + 1 + 1,5,none⟩ (.slice none 0 0)).setCell ⟨w.heap.size + 1 + 1 + 1,6,none⟩ (.slice none 0 0)):=⟨_,rfl⟩
   rw [← hW10] at bR bS B10 ⊢
   clear hW10 g8 g7
   obtain ⟨r0,r1,r2,r3,r4,r5,r6,r7⟩:=bR.cells8
   obtain ⟨s0,s1,s2,s3,s4,s5,s6⟩:=bS.cells7
   go_wp2
   exact bodyPost_ret (v:=.tuple #[.agg #[.int .i64 0,.int .i64 0,.slice none 0 0,.int .i64 0,.int .i64 0,.int .i64 0,.slice none 0 0,.slice none 0 0],.agg #[.int .i64 0,.int .i64 0,.int .i64 0,.int .i64 0,.int .i64 0,.slice none 0 0,.slice none 0 0],.int .i64 e2]) (by simp [results,Tryz.results65,go_sem,r0,r1,r2,r3,r4,r5,r6,r7,s0,s1,s2,s3,s4,s5,s6]) rfl (by unfold NdPost;exact ⟨l1,i1,e1,l2,i2,e2,HS1.out,HS2.out,.inl ⟨HZ.out,rfl⟩,BLw⟩)
end Go.Proofs.YtnojgiflgmnjlaaGreatDoor
namespace Go.Proofs.YtnojgiflgmnjlaaGreatDoor
open Go.RowKit
def WtPost (mk : List L3.Cp.C → Cf.Mb → Cf.Cl) (c : Cf.Cl) (m : Cf.Mb) (a b : ByteArray) (w : World) (e : Ending) (w' : World) : Prop :=
 ∃ l1 i1 e1 l2 i2 e2,AdS c.pool 0 ⟨1,a,0,0,0⟩ l1 i1 e1 ∧ AdS l1 e1 ⟨1,b,0,0,0⟩ l2 i2 e2 ∧
  ((e2 ≠ 0 ∧ e = .returned (.tuple #[K0V,.int .i64 e2])) ∨
   (e2 = 0 ∧ ((Cf.ClIs (mk l2 { m with nm:=(i1 : Nat),ds:=(i2 : Nat) }) 0 ∧ ∃ vs',e = .returned (.tuple #[.agg vs',.int .i64 0]) ∧ OCl w' w.heap.size vs' (mk l2 { m with nm:=(i1 : Nat),ds:=(i2 : Nat) }) ∧ PoolSz l2) ∨
    ∃ er,er ≠ 0 ∧ Cf.ClIs (mk l2 { m with nm:=(i1 : Nat),ds:=(i2 : Nat) }) er ∧ e = .returned (.tuple #[K0V,.int .i64 er])))) ∧
  Below w.heap.size w w'
theorem OMs.aside {w w' : World} {base base' : Nat} {v u : Value} {ms : List Cf.Mb} {n : Nat} {xs : List Value} (h : OMs w base v ms) (k : w.ownsRow base' 42 7 u n xs) (hne : ∀ k,v.ownBlock = some k → u.ownBlock ≠ some k) (hg : w.grownBy w' u.ownBlock) : OMs w' base v ms:=by
 obtain ⟨rs,h1,h2⟩:=h
 refine ⟨rs,h1.mono fun _ _ x=>x.apart k hg,⟨h2.1,?_⟩⟩
 rcases h2.2 with h3|⟨g,cap,cur,rfl,hge,hh,r⟩
 ·exact .inl h3
 ·exact .inr ⟨g,cap,cur,rfl,hge,(hg.block g (Array.getElem?_eq_some_iff.1 hh).1 (fun e=>hne g rfl e.symm)).trans hh,r⟩
def mkM (c : Cf.Cl) (l : List L3.Cp.C) (m : Cf.Mb) : Cf.Cl:={ c with pool:=l,ms:=c.ms ++ [m] }
def mkF (c : Cf.Cl) (l : List L3.Cp.C) (m : Cf.Mb) : Cf.Cl:={ c with pool:=l,fs:=c.fs ++ [m] }
theorem three {w : World} {c0 c1 c2 : Array Value} {T0 T1 T2 : TypeId} {W : World} (h : W = ((w.alloc (.cells c0 T0)).alloc (.cells c1 T1)).alloc (.cells c2 T2)) :
  L3.BX W w.heap.size c0 T0 ∧ L3.BX W (w.heap.size + 1) c1 T1 ∧ L3.BX W (w.heap.size + 1 + 1) c2 T2 ∧ W.heap.size = w.heap.size + 3 ∧ Below w.heap.size w W:=by
 subst h
 have b0:=BX.al (BX.al (L3.BX.new w c0 T0) (.cells c1 T1)) (.cells c2 T2)
 have b1:=BX.al (L3.BX.new (w.alloc (.cells c0 T0)) c1 T1) (.cells c2 T2)
 have b2:=L3.BX.new ((w.alloc (.cells c0 T0)).alloc (.cells c1 T1)) c2 T2
 simp only [World.size_alloc] at b1 b2
 exact ⟨b0,b1,b2,by simp only [World.size_alloc],BLw⟩
set_option maxHeartbeats 1000000 in
theorem withMethod_any (c : Cf.Cl) (vs : Array Value) (m : Cf.Mb) (cv hv : Value) (a b : ByteArray) (w : World) (hk : Ck w c) (h : ClR w vs c) (hs : Cf.Szc c) (hz : PoolSz c.pool) (hB : L3.Bs w.heap.size w cv m.code) (hH : Kit.IsS 4 w hv m.hs.length (m.hs.flatMap hL))
  (hmc : m.code.length ≤ 140737488355328) (hmh : m.hs.length * 32 ≤ 140737488355328) (ha : a.size ≤ 140737488355328) (hb : b.size ≤ 140737488355328) (hms : (c.ms.length + 1) * 88 ≤ 140737488355328) :
  Calls Tryz.prog 28 #[.agg vs,.string a,.string b,mbV m cv hv] w (WtPost (mkM c) c m a b w):=by
 obtain ⟨i0,hi,hz0,hz1,hz2⟩:=info_parts infoM
 have HK:=hid hk
 have HNd:=hid (fun W (k : Below w.heap.size w W)=>named_any c vs m cv hv a b W (hk.t3.below k hk.t3.size) (h.below k (Nat.le_refl _)) hs hz ((hB.below k (Nat.le_refl _)).mono k.size) (hH.below k (Nat.le_refl _)) hmc hmh ha hb)
 obtain ⟨pv,fv,mv,rfl,hp,hf,hm⟩:=h
 obtain ⟨pa,pc,rfl⟩:=hp.len
 obtain ⟨fa,fc,rfl⟩:=hf.len
 obtain ⟨ma2,mc,rfl⟩:=hm.len
 obtain ⟨xa,xc,rfl⟩:=hB.len
 obtain ⟨ya,yc,rfl⟩:=hH.len
 have HSz:=hid hs
 obtain ⟨mi,ma,P,ac,th,su,fs,ms⟩:=c
 obtain ⟨mac,mnm,mds,mst,mlc,co,hs9⟩:=m
 unfold mbV at HNd ⊢
 dsimp only at HNd HSz hms ⊢
 have HMs:=hid hms
 clear hk hp hf hm hB hH hmc hmh ha hb hs hz hms
 go_enter Tryz.func28,Tryz.ntmps28
 go_wp2_with fail
 obtain ⟨W1,hW1⟩ : ∃ W1,W1 = (((w.alloc (.cells #[.int .i64 mi,.int .i64 ma,.slice pa P.length pc,.int .i64 ac,.int .i64 th,.int .i64 su,.slice fa fs.length fc,.slice ma2 ms.length mc] 26)).alloc (.cells #[.int .i64 mac,.int .i64 mnm,.int .i64 mds,.int .i64 mst,.int .i64 mlc,.slice xa co.length xc,.slice ya hs9.length yc] 42)).alloc (.cells #[.int .i64 0,.int .i64 0,.slice none 0 0,.int .i64 0,.int .i64 0,.int .i64 0,.slice none 0 0,.slice none 0 0] 26)):=⟨_,rfl⟩
 obtain ⟨bC,bM,bR,hzW,B1⟩:=three hW1
 rw [← hW1]
 have HB1:=hid B1
 have BC1:=hid bC
 have BM1:=hid bM
 have BR1:=hid bR
 clear hW1 bC bM bR B1
 go_wp2_with (first|(go_at_call 65;refine (HNd.out W1 HB1.out).mono ?_;rintro e w2 hN;unfold NdPost at hN;rcases hN with ⟨l1,i1,e1,l2,i2,e2,hS1,hS2,(⟨hz,rfl⟩|⟨rfl,vs9,cv9,hv9,rfl,oC,oM,hPz,hAp⟩),hb2⟩;all_goals (have HS1:=hid hS1;have HS2:=hid hS2;have HB2:=hid hb2;have bC:=BC1.out.below hb2 BC1.out.sz;have bM:=BM1.out.below hb2 BM1.out.sz;have bR:=BR1.out.below hb2 BR1.out.sz;have c0:=bC.cell 0;have fc0:=bC.frozen 0;have c1:=bC.cell 1;have fc1:=bC.frozen 1;have c2:=bC.cell 2;have fc2:=bC.frozen 2;have c3:=bC.cell 3;have fc3:=bC.frozen 3;have c4:=bC.cell 4;have fc4:=bC.frozen 4;have c5:=bC.cell 5;have fc5:=bC.frozen 5;have c6:=bC.cell 6;have fc6:=bC.frozen 6;have c7:=bC.cell 7;have fc7:=bC.frozen 7;simp at c0 c1 c2 c3 c4 c5 c6 c7;have m0:=bM.cell 0;have fm0:=bM.frozen 0;have m1:=bM.cell 1;have fm1:=bM.frozen 1;have m2:=bM.cell 2;have fm2:=bM.frozen 2;have m3:=bM.cell 3;have fm3:=bM.frozen 3;have m4:=bM.cell 4;have fm4:=bM.frozen 4;have m5:=bM.cell 5;have fm5:=bM.frozen 5;have m6:=bM.cell 6;have fm6:=bM.frozen 6;simp at m0 m1 m2 m3 m4 m5 m6;have r0:=bR.cell 0;have fr0:=bR.frozen 0;have r1:=bR.cell 1;have fr1:=bR.frozen 1;have r2:=bR.cell 2;have fr2:=bR.frozen 2;have r3:=bR.cell 3;have fr3:=bR.frozen 3;have r4:=bR.cell 4;have fr4:=bR.frozen 4;have r5:=bR.cell 5;have fr5:=bR.frozen 5;have r6:=bR.cell 6;have fr6:=bR.frozen 6;have r7:=bR.cell 7;have fr7:=bR.frozen 7;simp at r0 r1 r2 r3 r4 r5 r6 r7;clear bC bM bR hb2 hS1 hS2);all_goals (first|(have hdd : (e2 != 0) = true:=(by simpa using hz);have HZ:=hid hz;clear hz;unfold K0V mbV Cf.M0;dsimp only)|(have OC2:=hid oC;have OM2:=hid oM;have HPz:=hid hPz;have HAp:=hid hAp;obtain ⟨pv9,fv9,mv9,rfl,o1,o2,o3⟩:=oC;obtain ⟨pa9,pc9,rfl⟩:=L3.own_form o1;obtain ⟨fa9,fc9,rfl⟩:=OMs.form o2;obtain ⟨ma9,mc9,rfl⟩:=OMs.form o3;obtain ⟨cv3,hv3,he3,oc,oh,-,-⟩:=oM;obtain ⟨rfl,rfl⟩ : cv9 = cv3 ∧ hv9 = hv3:=(by simpa [mL] using he3);obtain ⟨xa2,xc2,rfl⟩:=L3.own_form oc;obtain ⟨ya2,yc2,rfl⟩:=L3.own_form oh;unfold mbV;dsimp only at OC2 OM2 ⊢;clear o1 o2 o3 oc oh he3 hPz hAp)))|(at_builtin;have _g:=OC2;(fail_if_success (have _g:=HO4));have g8:=grown8 w2 (w.heap.size) (.int .i64 mi) (.int .i64 ma) (.slice pa9 l2.length pc9) (.int .i64 ac) (.int .i64 th) (.int .i64 su) (.slice fa9 fs.length fc9) (.slice ma9 ms.length mc9);have g7:=grown7 ((((((((w2.setCell ⟨w.heap.size,0,none⟩ (.int .i64 mi)).setCell ⟨w.heap.size,1,none⟩ (.int .i64 ma)).setCell ⟨w.heap.size,2,none⟩ (.slice pa9 l2.length pc9)).setCell ⟨w.heap.size,3,none⟩ (.int .i64 ac)).setCell ⟨w.heap.size,4,none⟩ (.int .i64 th)).setCell ⟨w.heap.size,5,none⟩ (.int .i64 su)).setCell ⟨w.heap.size,6,none⟩ (.slice fa9 fs.length fc9)).setCell ⟨w.heap.size,7,none⟩ (.slice ma9 ms.length mc9)) (w.heap.size + 1) (.int .i64 mac) (.int .i64 (i1 : Nat)) (.int .i64 (i2 : Nat)) (.int .i64 mst) (.int .i64 mlc) (.slice xa2 co.length xc2) (.slice ya2 hs9.length yc2);have bC:=(put8 (BC1.out.below HB2.out BC1.out.sz) rfl (.int .i64 mi) (.int .i64 ma) (.slice pa9 l2.length pc9) (.int .i64 ac) (.int .i64 th) (.int .i64 su) (.slice fa9 fs.length fc9) (.slice ma9 ms.length mc9)).grown g7 (fun e=>by (have:=Option.some.inj e;omega));have bM:=put7 ((BM1.out.below HB2.out BM1.out.sz).grown g8 (fun e=>by (have:=Option.some.inj e;omega))) rfl (.int .i64 mac) (.int .i64 (i1 : Nat)) (.int .i64 (i2 : Nat)) (.int .i64 mst) (.int .i64 mlc) (.slice xa2 co.length xc2) (.slice ya2 hs9.length yc2);have bR:=((BR1.out.below HB2.out BR1.out.sz).grown g8 (fun e=>by (have:=Option.some.inj e;omega))).grown g7 (fun e=>by (have:=Option.some.inj e;omega));have oC:=(OC2.out.grown g8 (by omega)).grown g7 (by omega);have oM:=(OM2.out.grown g8 (by omega)).grown g7 (by omega);have B3:=nwB (nwB (belows HB1.out HB2.out HB1.out.size) g8 ⟨Nat.le_refl _,by (have:=HB1.out.size;have:=HB2.out.size;omega)⟩) g7 ⟨by omega,by (have:=HB1.out.size;have:=HB2.out.size;have:=g8.size;omega)⟩;have hz3 : W1.heap.size ≤ (((((((((((((((w2.setCell ⟨w.heap.size,0,none⟩ (.int .i64 mi)).setCell ⟨w.heap.size,1,none⟩ (.int .i64 ma)).setCell ⟨w.heap.size,2,none⟩ (.slice pa9 l2.length pc9)).setCell ⟨w.heap.size,3,none⟩ (.int .i64 ac)).setCell ⟨w.heap.size,4,none⟩ (.int .i64 th)).setCell ⟨w.heap.size,5,none⟩ (.int .i64 su)).setCell ⟨w.heap.size,6,none⟩ (.slice fa9 fs.length fc9)).setCell ⟨w.heap.size,7,none⟩ (.slice ma9 ms.length mc9)).setCell ⟨w.heap.size + 1,0,none⟩ (.int .i64 mac)).setCell ⟨w.heap.size + 1,1,none⟩ (.int .i64 (i1 : Nat))).setCell ⟨w.heap.size + 1,2,none⟩ (.int .i64 (i2 : Nat))).setCell ⟨w.heap.size + 1,3,none⟩ (.int .i64 mst)).setCell ⟨w.heap.size + 1,4,none⟩ (.int .i64 mlc)).setCell ⟨w.heap.size + 1,5,none⟩ (.slice xa2 co.length xc2)).setCell ⟨w.heap.size + 1,6,none⟩ (.slice ya2 hs9.length yc2)).heap.size:=(by (have:=HB2.out.size;have:=g8.size;have:=g7.size;omega));obtain ⟨W3,hW3⟩ : ∃ W,W = (((((((((((((((w2.setCell ⟨w.heap.size,0,none⟩ (.int .i64 mi)).setCell ⟨w.heap.size,1,none⟩ (.int .i64 ma)).setCell ⟨w.heap.size,2,none⟩ (.slice pa9 l2.length pc9)).setCell ⟨w.heap.size,3,none⟩ (.int .i64 ac)).setCell ⟨w.heap.size,4,none⟩ (.int .i64 th)).setCell ⟨w.heap.size,5,none⟩ (.int .i64 su)).setCell ⟨w.heap.size,6,none⟩ (.slice fa9 fs.length fc9)).setCell ⟨w.heap.size,7,none⟩ (.slice ma9 ms.length mc9)).setCell ⟨w.heap.size + 1,0,none⟩ (.int .i64 mac)).setCell ⟨w.heap.size + 1,1,none⟩ (.int .i64 (i1 : Nat))).setCell ⟨w.heap.size + 1,2,none⟩ (.int .i64 (i2 : Nat))).setCell ⟨w.heap.size + 1,3,none⟩ (.int .i64 mst)).setCell ⟨w.heap.size + 1,4,none⟩ (.int .i64 mlc)).setCell ⟨w.heap.size + 1,5,none⟩ (.slice xa2 co.length xc2)).setCell ⟨w.heap.size + 1,6,none⟩ (.slice ya2 hs9.length yc2)):=⟨_,rfl⟩;have hsz3 : w2.heap.size = W3.heap.size:=(by rw [hW3];simp only [World.size_setCell]);rw [← hW3] at bC bM bR oC oM B3 hz3 ⊢;rw [hsz3];obtain ⟨pvx,fvx,mvx,hvs,o1,o2,⟨rs,hrs,o3⟩⟩:=oC;dsimp only at hrs o1 o2 o3 hvs;have hvs2 : pvx = .slice pa9 l2.length pc9 ∧ fvx = .slice fa9 fs.length fc9 ∧ mvx = .slice ma9 ms.length mc9:=(by (simp at hvs;exact ⟨hvs.1.symm,hvs.2.1.symm,hvs.2.2.symm⟩));obtain ⟨rfl,rfl,rfl⟩:=hvs2;clear c0 c1 c2 c3 c4 c5 c6 c7 m0 m1 m2 m3 m4 m5 m6 r0 r1 r2 r3 r4 r5 r6 r7 fc0 fc1 fc2 fc3 fc4 fc5 fc6 fc7 fm0 fm1 fm2 fm3 fm4 fm5 fm6 fr0 fr1 fr2 fr3 fr4 fr5 fr6 fr7 hW3 g8 g7 hvs;refine wpList_append_own_at _ rfl (.tmp 25) (.tmp 27) 24 rfl W1.heap.size 42 i0 _ 7 88 Tryz.underlying24 hi hz0 hz1 hz2 rfl (by decide) _ _ _ rfl (o3.alloc _) ⟨W3.heap.size,0,none⟩ 1 1 (mL ⟨mac,(i1 : Nat),(i2 : Nat),mst,mlc,co,hs9⟩ (.slice xa2 co.length xc2) (.slice ya2 hs9.length yc2)) rfl rfl (news_m W3 ⟨mac,(i1 : Nat),(i2 : Nat),mst,mlc,co,hs9⟩ _ _) (ones_m ⟨mac,(i1 : Nat),(i2 : Nat),mst,mlc,co,hs9⟩ rfl rfl) (by (have:=HMs.out;unfold maxLen;omega)) (by (have:=HMs.out;omega)) (by simp only [World.size_alloc];omega) ?_;intro v4 W4 ho4 hg4 _ hk4;have ba : Below W3.heap.size W3 (W3.alloc (.cells #[.int .i64 mac,.int .i64 (i1 : Nat),.int .i64 (i2 : Nat),.int .i64 mst,.int .i64 mlc,.slice xa2 co.length xc2,.slice ya2 hs9.length yc2] 42)):=(Below.refl _ _).alloc (Nat.le_refl _) _;have hrs:=hrs.mono fun _ _ k=>k.below ba (Nat.le_refl _);have oM:=oM.below ba (Nat.le_refl _);have hge : ∀ k,(Value.slice ma9 ms.length mc9).ownBlock = some k → W1.heap.size ≤ k:=Kit.own_base o3;have bC:=(BX.al bC _).grown hg4 (fun e=>by (have:=hge _ e;omega));have bM:=(BX.al bM _).grown hg4 (fun e=>by (have:=hge _ e;omega));have bR:=(BX.al bR _).grown hg4 (fun e=>by (have:=hge _ e;omega));have o1:=owns_apart (World.ownsRow.alloc o1 _) (o3.alloc _) (by decide) hg4;have o2:=OMs.aside (o2.below ba (Nat.le_refl _)) (o3.alloc _) (fun k hk e9=>HAp.out k hk e9) hg4;have o4:=OMs.push hrs (o3.alloc _) oM hg4 ho4;have B4:=(B3.alloc B3.size _).grown hg4 (by (have:=B3.size;rw [World.size_alloc];omega)) (fun k hk=>by (have:=hge k hk;omega));have hz4 : W1.heap.size ≤ W4.heap.size:=(by (have q9:=hg4.size;rw [World.size_alloc] at q9;omega));have HB4:=hid B4;have BC4:=hid bC;have BR4:=hid bR;have c0:=bC.cell 0;have fc0:=bC.frozen 0;have c1:=bC.cell 1;have fc1:=bC.frozen 1;have c2:=bC.cell 2;have fc2:=bC.frozen 2;have c3:=bC.cell 3;have fc3:=bC.frozen 3;have c4:=bC.cell 4;have fc4:=bC.frozen 4;have c5:=bC.cell 5;have fc5:=bC.frozen 5;have c6:=bC.cell 6;have fc6:=bC.frozen 6;have c7:=bC.cell 7;have fc7:=bC.frozen 7;simp at c0 c1 c2 c3 c4 c5 c6 c7;obtain ⟨ma4,mc4,rfl⟩:=OMs.form o4;have e7 : (ms ++ [(⟨mac,(i1 : Nat),(i2 : Nat),mst,mlc,co,hs9⟩ : Cf.Mb)]).length = ms.length + 1:=(by simp);rw [e7] at o4;have HO4:=hid (And.intro o1 (And.intro o2 o4));clear o1 o2 o3 o4 hrs oM bC bM bR B3 B4 ba hge ho4 hg4 hk4)|(go_at_call 35;go_loud (have g5:=L3.set_grown W4 w.heap.size 7 (.slice ma4 (ms.length + 1) mc4);have o1:=Kit.owns_grown HO4.out.1 g5 (by omega);have o2:=HO4.out.2.1.grown g5 (by omega);have o4:=HO4.out.2.2.grown g5 (by omega);have bR:=BR4.out.grown g5 (fun e=>by (have:=Option.some.inj e;omega));have B5:=nwB HB4.out g5 ⟨Nat.le_refl _,HB4.out.size⟩;have oC5z : W1.heap.size ≤ (W4.setCell ⟨w.heap.size,7,none⟩ (.slice ma4 (ms.length + 1) mc4)).heap.size:=(by rw [World.size_setCell];exact hz4);obtain ⟨W5,hW5⟩ : ∃ W,W = W4.setCell ⟨w.heap.size,7,none⟩ (.slice ma4 (ms.length + 1) mc4):=⟨_,rfl⟩;rw [← hW5] at o1 o2 o4 bR B5 oC5z ⊢;have oC : OCl W5 W1.heap.size #[.int .i64 mi,.int .i64 ma,.slice pa9 l2.length pc9,.int .i64 ac,.int .i64 th,.int .i64 su,.slice fa9 fs.length fc9,.slice ma4 (ms.length + 1) mc4] ⟨mi,ma,l2,ac,th,su,fs,ms ++ [⟨mac,(i1 : Nat),(i2 : Nat),mst,mlc,co,hs9⟩]⟩:=⟨_,_,_,rfl,o1,o2,o4⟩;have hcl:=oC.reads ⟨by (have:=HPz.out.1;show l2.length ≤ _;omega),by (have q9 : fs.length * 88 ≤ 140737488355328:=HSz.out.2.1;show fs.length ≤ _;omega),by (have:=HMs.out;show (ms ++ [_]).length ≤ _;rw [List.length_append];show ms.length + 1 ≤ _;omega)⟩;have hck : Ck W5 ⟨mi,ma,l2,ac,th,su,fs,ms ++ [⟨mac,(i1 : Nat),(i2 : Nat),mst,mlc,co,hs9⟩]⟩:=⟨(HK.out.below B5).t1,(HK.out.below B5).t3,HPz.out.1,HPz.out.2⟩;refine (checked_any _ _ W5 hck hcl).mono ?_;rintro e w6 ⟨h6|⟨er,hz,hR,rfl⟩,hb6⟩;all_goals (try (obtain ⟨hR,rfl⟩:=h6));all_goals (have HR6:=hid hR;have HC6:=hid (oC.below hb6 (Nat.le_refl _));have B6:=belows B5 hb6 B5.size;have hz6 : W1.heap.size ≤ w6.heap.size:=(by (have:=hb6.size;have:=oC5z;omega));have HB6:=hid B6;have bR6:=bR.below hb6 bR.sz;have r0:=bR6.cell 0;have fr0:=bR6.frozen 0;have r1:=bR6.cell 1;have fr1:=bR6.frozen 1;have r2:=bR6.cell 2;have fr2:=bR6.frozen 2;have r3:=bR6.cell 3;have fr3:=bR6.frozen 3;have r4:=bR6.cell 4;have fr4:=bR6.frozen 4;have r5:=bR6.cell 5;have fr5:=bR6.frozen 5;have r6:=bR6.cell 6;have fr6:=bR6.frozen 6;have r7:=bR6.cell 7;have fr7:=bR6.frozen 7;simp at r0 r1 r2 r3 r4 r5 r6 r7;clear bR6 bR B5 B6 hcl hck o1 o2 o4 oC hW5 g5 hb6 hR;(try (have HZ:=hid hz;clear hz;unfold K0V))))))
 ·have B2 : Below w.heap.size w w2:=belows HB1.out HB2.out HB1.out.size
  exact bodyPost_ret (v:=.tuple #[.agg #[.int .i64 0,.int .i64 0,.slice none 0 0,.int .i64 0,.int .i64 0,.int .i64 0,.slice none 0 0,.slice none 0 0],.int .i64 e2]) (by simp [results,Tryz.results28,go_sem,r0,r1,r2,r3,r4,r5,r6,r7]) rfl (by unfold WtPost K0V;exact ⟨l1,i1,e1,l2,i2,e2,HS1.out,HS2.out,.inl ⟨HZ.out,rfl⟩,BLw⟩)
 ·have g8:=grown8 w6 (w.heap.size + 1 + 1) (.int .i64 mi) (.int .i64 ma) (.slice pa9 l2.length pc9) (.int .i64 ac) (.int .i64 th) (.int .i64 su) (.slice fa9 fs.length fc9) (.slice ma4 (ms.length + 1) mc4)
  have oC:=(HC6.out.grown g8 (by omega)).mono (base':=w.heap.size) (by omega)
  have B6:=HB6.out
  exact bodyPost_ret (v:=.tuple #[.agg #[.int .i64 mi,.int .i64 ma,.slice pa9 l2.length pc9,.int .i64 ac,.int .i64 th,.int .i64 su,.slice fa9 fs.length fc9,.slice ma4 (ms.length + 1) mc4],.int .i64 0]) (by simp [results,Tryz.results28,go_sem,r0,r1,r2,r3,r4,r5,r6,r7]) rfl (by unfold WtPost;exact ⟨l1,i1,e1,l2,i2,0,HS1.out,HS2.out,.inr ⟨rfl,.inl ⟨HR6.out,_,rfl,oC,HPz.out⟩⟩,BLw⟩)
 ·have B6:=HB6.out
  exact bodyPost_ret (v:=.tuple #[.agg #[.int .i64 0,.int .i64 0,.slice none 0 0,.int .i64 0,.int .i64 0,.int .i64 0,.slice none 0 0,.slice none 0 0],.int .i64 er]) (by simp [results,Tryz.results28,go_sem,r0,r1,r2,r3,r4,r5,r6,r7]) rfl (by unfold WtPost K0V;exact ⟨l1,i1,e1,l2,i2,0,HS1.out,HS2.out,.inr ⟨rfl,.inr ⟨er,HZ.out,HR6.out,rfl⟩⟩,BLw⟩)
end Go.Proofs.YtnojgiflgmnjlaaGreatDoor
namespace Go.Proofs.YtnojgiflgmnjlaaGreatDoor
open Go.RowKit
theorem w2s_len (l : List Int) : (l.flatMap Cf.w2).length = 2 * l.length:=by
 induction l with
 | nil=>rfl
 | cons a l ih=>rw [List.flatMap_cons,List.length_append,ih,Cf.w2_len,List.length_cons];omega
theorem own2 {w : World} {base : Nat} {v : Value} {l : List Int} {a b : Int} (h : w.ownsRow base 5 1 v (l.length + 2) (l.map (Value.int .u8) ++ [.int .u8 a,.int .u8 b])) : L3.OwnI w base v (l ++ [a,b]):=by
 unfold L3.OwnI
 rw [List.length_append,List.map_append]
 exact h
theorem own_form3 {w : World} {base : Nat} {v : Value} {l : List Int} (h : L3.OwnI w base v l) : ∃ a k c,v = .slice a k c:=by
 obtain ⟨a,c,h2⟩:=L3.own_form h
 exact ⟨a,_,c,h2⟩
theorem news_two (w : World) (a b : Value) (T : TypeId) : ∀ j u,[a,b][j]? = some u → (w.alloc (.cells #[a,b] T)).cell? ((⟨w.heap.size,0,none⟩ : Addr).add j) = some u:=by
 intro j u hj
 rw [Go.WideShapes.add_plain,Nat.zero_add,(L3.BX.new w #[a,b] T).cell]
 simpa using hj
set_option maxHeartbeats 2000000 in
theorem wu2_any (base : Nat) (v : Value) (l ns : List Int) (nb cap : Nat) (w : World) (ho : L3.OwnI w base v l) (hb : base ≤ w.heap.size) (hn : nb < w.heap.size) (hne : ∀ k,v.ownBlock = some k → k ≠ nb)
  (hc : ∀ j n,ns[j]? = some n → w.cell? ⟨nb,j,none⟩ = some (.int .i64 n)) (hl : l.length + 2 * ns.length ≤ 140737488355328) :
  Calls Tryz.prog 90 #[v,.slice (some ⟨nb,0,none⟩) ns.length cap] w fun e w'=>∃ v',e = .returned v' ∧ L3.OwnI w' base v' (l ++ ns.flatMap Cf.w2) ∧ Kit.Grows w w' v v':=by
 obtain ⟨i0,hi,hz0,hz1,hz2⟩:=info_parts infoB
 have HC:=hid hc
 have HO0:=hid ho
 have HNe:=hid hne
 obtain ⟨a0,cp0,rfl⟩:=L3.own_form ho
 clear hc ho hne
 go_enter Tryz.func90,Tryz.ntmps90
 go_wp2
 go_loopw [0,9] (fun u i wr=>∃ j : Nat,i = .int .i64 j ∧ j ≤ ns.length ∧ L3.OwnI wr base u (l ++ (ns.take j).flatMap Cf.w2) ∧ Kit.Grows w wr (.slice a0 l.length cp0) u) (fun _ i _=>ns.length - (intOf i).toNat)
 case atStart=>exact ⟨0,rfl,by omega,by simpa using HO0.out,Kit.Grows.refl _ _⟩
 case round =>
  obtain ⟨j,rfl,hj,HO,HG⟩:=hrel
  have hz:=HG.size
  by_cases hlt : j < ns.length
  ·obtain ⟨n,hx⟩ : ∃ x,ns[j]? = some x:=⟨ns[j],List.getElem?_eq_getElem hlt⟩
   have c0 : wr.cell? ⟨nb,j,none⟩ = some (.int .i64 n):=by rw [HG.cell hn HNe.out];exact HC.out j n hx
   have hji : (j : Int) < (ns.length : Int):=by omega
   have HX:=hid hx
   have HLn:=hid (show (l ++ (ns.take j).flatMap Cf.w2).length = l.length + 2 * j by rw [List.length_append,w2s_len,List.length_take];omega)
   obtain ⟨L,hL⟩ : ∃ L,L = l ++ (ns.take j).flatMap Cf.w2:=⟨_,rfl⟩
   rw [← hL] at HO HLn
   have HLe:=hid hL
   obtain ⟨a1,cp1,rfl⟩:=L3.own_form HO
   have HLs:=hid (show L.length + 2 ≤ 140737488355328 by have:=HLn.out;omega)
   clear hx hL
   go_wp2_with (at_builtin;refine wpList_append_own_at _ rfl (.tmp 13) (.tmp 19) 22 rfl base 5 i0 _ 1 1 Tryz.underlying22 hi hz0 hz1 hz2 rfl (by decide) _ _ _ rfl (World.ownsRow.alloc HO _) ⟨wr.heap.size,0,none⟩ 2 2 [.int .u8 (n / 256 % 256),.int .u8 (n % 256)] rfl rfl (news_two _ _ _ _) (by (intro u hu;simp at hu;rcases hu with rfl|rfl <;> rfl)) (by (have:=HLs.out;unfold maxLen;omega)) (by (have:=HLs.out;omega)) (by simp only [World.size_alloc];omega) ?_;intro v1 w1 ho1' hg1 _ hk1;have ho1:=own2 ho1';have G1:=Kit.grows_append ((Below.refl wr.heap.size wr).alloc (Nat.le_refl _) _) hg1 hk1;clear ho1' hg1 hk1)
   go_roundw
   case rel =>
    refine ⟨j + 1,by go_num,by omega,?_,HG.trans G1⟩
    rw [List.take_add_one,HX.out,Option.toList_some,List.flatMap_append,← List.append_assoc,← HLe.out]
    simpa [Cf.w2] using ho1
   case measure=>simp [intOf];omega
  ·obtain rfl : j = ns.length:=by omega
   rw [List.take_length] at HO
   obtain ⟨a1,cp1,hv1⟩:=L3.own_form HO
   subst hv1
   go_wp2
   go_ret
   exact ⟨_,rfl,HO,HG⟩
set_option maxHeartbeats 1000000 in
theorem wu4_any (base : Nat) (v : Value) (l : List Int) (n : Int) (w : World) (ho : L3.OwnI w base v l) (hb : base ≤ w.heap.size) (h0 : ∀ k,v.ownBlock = some k → k < w.heap.size) (hl : l.length + 4 ≤ 140737488355328) :
  Calls Tryz.prog 89 #[v,.int .i64 n] w fun e w'=>∃ v',e = .returned v' ∧ L3.OwnI w' base v' (l ++ Cf.w4 n) ∧ Kit.Grows w w' v v':=by
 have HU:=hid (wu2_any base v l [n / 65536,n] w.heap.size 2 (w.alloc (.cells #[.int .i64 (n / 65536),.int .i64 n] 3)) (World.ownsRow.alloc ho _) (by simp;omega) (by simp) (fun k hk=>by have:=h0 k hk;omega)
  (fun j x hx=>by
   rw [(L3.BX.new w #[.int .i64 (n / 65536),.int .i64 n] 3).cell]
   match j,hx with
   | 0,hx=>simp at hx;subst hx;rfl
   | 1,hx=>simp at hx;subst hx;rfl) (by simpa using hl))
 obtain ⟨a0,cp0,rfl⟩:=L3.own_form ho
 clear ho
 go_enter Tryz.func89,Tryz.ntmps89
 go_wp2_with (go_at_call 90;refine HU.out.mono ?_;rintro e w1 ⟨v1,rfl,o1,g1⟩;obtain ⟨a1,k1,cp1,rfl⟩:=own_form3 o1)
 go_ret
 exact ⟨_,rfl,by simpa [Cf.w4] using o1,((Kit.Grows.refl w _).below ((Below.refl _ _).alloc (Nat.le_refl _) _)).trans g1⟩
end Go.Proofs.YtnojgiflgmnjlaaGreatDoor
namespace Go.Proofs.YtnojgiflgmnjlaaGreatDoor
open Go.RowKit
def Wr (w0 w : World) (v : Value) (l : List Int) : Prop:=L3.OwnI w w0.heap.size v l ∧ Below w0.heap.size w0 w
theorem Wr.grow {w0 w w' : World} {v v' : Value} {l l' : List Int} (h : Wr w0 w v l) (ho : L3.OwnI w' w0.heap.size v' l') (hg : Kit.Grows w w' v v') : Wr w0 w' v' l':=⟨ho,hg.to_below h.2 h.2.size (Kit.own_base h.1)⟩
theorem Wr.alloc {w0 w : World} {v : Value} {l : List Int} (h : Wr w0 w v l) (o : Obj) : Wr w0 (w.alloc o) v l:=⟨World.ownsRow.alloc h.1 _,h.2.alloc h.2.size _⟩
theorem Wr.below {w0 w w' : World} {v : Value} {l : List Int} (h : Wr w0 w v l) (hb : Below w.heap.size w w') : Wr w0 w' v l:=⟨Kit.owns_below h.1 hb (Nat.le_refl _),belows h.2 hb h.2.size⟩
theorem Wr.form {w0 w : World} {v : Value} {l : List Int} (h : Wr w0 w v l) : ∃ a cap,v = .slice a l.length cap:=L3.own_form h.1
theorem Wr.nil (w0 w : World) (h : Below w0.heap.size w0 w) : Wr w0 w (.slice none 0 0) []:=⟨L3.nilI _ _,h⟩
def WP (w0 w : World) (v : Value) (l' : List Int) (e : Ending) (w' : World) : Prop:=∃ v',e = .returned v' ∧ Wr w0 w' v' l' ∧ Kit.Grows w w' v v'
theorem grows_owns {w w' : World} {v v' u : Value} {base n size : Nat} {e : TypeId} {xs : List Value} (hg : Kit.Grows w w' v v') (hu : w.ownsRow base e size u n xs) (hne : ∀ k,u.ownBlock = some k → v.ownBlock ≠ some k) : w'.ownsRow base e size u n xs ∧ ∀ k,u.ownBlock = some k → v'.ownBlock ≠ some k:=by
 refine ⟨⟨hu.1,?_⟩,fun k hk e=>?_⟩
 ·rcases hu.2 with h|⟨g,cap,cur,rfl,hge,hh,r⟩
  ·exact .inl h
  ·exact .inr ⟨g,cap,cur,rfl,hge,(hg.grown.block g (Array.getElem?_eq_some_iff.1 hh).1 (fun e=>hne g rfl e.symm)).trans hh,r⟩
 ·have hlt:=Kit.own_lt hu k hk
  rcases hg.blk with e2|⟨j,hj,e2⟩
  ·rw [e2] at e;exact hne k hk e
  ·rw [e2] at e;have:=Option.some.inj e;omega
theorem wu2_lit (w0 : World) (v : Value) (l ns : List Int) (vals : Array Value) (T : TypeId) (cap : Nat) (W0 : World) (h : Wr w0 W0 v l) (hv : vals.toList = ns.map (Value.int .i64)) (hl : l.length + 2 * ns.length ≤ 140737488355328) :
  Calls Tryz.prog 90 #[v,.slice (some ⟨W0.heap.size,0,none⟩) ns.length cap] (W0.alloc (.cells vals T)) (WP w0 W0 v (l ++ ns.flatMap Cf.w2)):=by
 refine (wu2_any w0.heap.size v l ns W0.heap.size cap (W0.alloc (.cells vals T)) (World.ownsRow.alloc h.1 _) (by have:=h.2.size;rw [World.size_alloc];omega) (by rw [World.size_alloc];omega) (fun k hk=>by have:=Kit.own_lt h.1 k hk;omega) (fun j n hj=>?_) hl).mono ?_
 ·rw [(L3.BX.new W0 vals T).cell,← Array.getElem?_toList,hv,List.getElem?_map,hj]
  rfl
 ·rintro e w' ⟨v',rfl,h1,h2⟩
  have hG : Kit.Grows W0 w' v v':=((Kit.Grows.refl W0 v).below ((Below.refl _ _).alloc (Nat.le_refl _) _)).trans h2
  exact ⟨v',rfl,h.grow h1 hG,hG⟩
theorem wu4_wr (w0 : World) (v : Value) (l : List Int) (n : Int) (w : World) (h : Wr w0 w v l) (hl : l.length + 4 ≤ 140737488355328) :
  Calls Tryz.prog 89 #[v,.int .i64 n] w (WP w0 w v (l ++ Cf.w4 n)):=by
 refine (wu4_any w0.heap.size v l n w h.1 h.2.size (fun k hk=>Kit.own_lt h.1 k hk) hl).mono ?_
 rintro e w' ⟨v',rfl,h1,h2⟩
 exact ⟨v',rfl,h.grow h1 h2,h2⟩
theorem wf_lit (w0 : World) (v : Value) (l : List Int) (m : Cf.Mb) (cv hv : Value) (w : World) (h : Wr w0 w v l) (hl : l.length + 8 ≤ 140737488355328) :
  Calls Tryz.prog 90 #[v,.slice (some ⟨w.heap.size + 1,0,none⟩) 4 4] ((w.alloc (.cells #[.int .i64 m.ac,.int .i64 m.nm,.int .i64 m.ds,.int .i64 m.st,.int .i64 m.lc,cv,hv] 42)).alloc (.cells #[.int .i64 m.ac,.int .i64 m.nm,.int .i64 m.ds,.int .i64 0] 3)) (WP w0 (w.alloc (.cells #[.int .i64 m.ac,.int .i64 m.nm,.int .i64 m.ds,.int .i64 m.st,.int .i64 m.lc,cv,hv] 42)) v (l ++ Cf.fdB m)):=by
 have H:=wu2_lit w0 v l [m.ac,m.nm,m.ds,0] #[.int .i64 m.ac,.int .i64 m.nm,.int .i64 m.ds,.int .i64 0] 3 4 (w.alloc (.cells #[.int .i64 m.ac,.int .i64 m.nm,.int .i64 m.ds,.int .i64 m.st,.int .i64 m.lc,cv,hv] 42)) (h.alloc _) rfl hl
 rw [World.size_alloc] at H
 have e : [m.ac,m.nm,m.ds,0].flatMap Cf.w2 = Cf.fdB m:=rfl
 rw [e] at H
 exact H
theorem wh_lit (w0 : World) (v : Value) (l : List Int) (x : Cf.Hn) (w : World) (h : Wr w0 w v l) (hl : l.length + 8 ≤ 140737488355328) :
  Calls Tryz.prog 90 #[v,.slice (some ⟨w.heap.size + 1,0,none⟩) 4 4] ((w.alloc (.cells #[.int .i64 x.f,.int .i64 x.t,.int .i64 x.a,.int .i64 x.y] 58)).alloc (.cells #[.int .i64 x.f,.int .i64 x.t,.int .i64 x.a,.int .i64 x.y] 3)) (WP w0 (w.alloc (.cells #[.int .i64 x.f,.int .i64 x.t,.int .i64 x.a,.int .i64 x.y] 58)) v (l ++ Cf.hnB x)):=by
 have H:=wu2_lit w0 v l [x.f,x.t,x.a,x.y] #[.int .i64 x.f,.int .i64 x.t,.int .i64 x.a,.int .i64 x.y] 3 4 (w.alloc (.cells #[.int .i64 x.f,.int .i64 x.t,.int .i64 x.a,.int .i64 x.y] 58)) (h.alloc _) rfl hl
 rw [World.size_alloc] at H
 have e : [x.f,x.t,x.a,x.y].flatMap Cf.w2 = Cf.hnB x:=rfl
 rw [e] at H
 exact H
theorem WP.al {w0 w : World} {v : Value} {l : List Int} {o : Obj} {e : Ending} {w' : World} (h : WP w0 (w.alloc o) v l e w') : WP w0 w v l e w':=by
 obtain ⟨v',h1,h2,h3⟩:=h
 exact ⟨v',h1,h2,((Kit.Grows.refl w v).below ((Below.refl _ _).alloc (Nat.le_refl _) _)).trans h3⟩
set_option maxHeartbeats 1000000 in
theorem wfield_any (w0 : World) (v : Value) (l : List Int) (m : Cf.Mb) (cv hv : Value) (w : World) (h : Wr w0 w v l) (hl : l.length + 8 ≤ 140737488355328) (hcv : ∃ a n c,cv = .slice a n c) (hhv : ∃ a n c,hv = .slice a n c) :
  Calls Tryz.prog 92 #[v,mbV m cv hv] w (WP w0 w v (l ++ Cf.fdB m)):=by
 have HU:=hid (wf_lit w0 v l m cv hv w h hl)
 obtain ⟨a0,cp0,rfl⟩:=h.form
 obtain ⟨xa,xn,xc,rfl⟩:=hcv
 obtain ⟨ya,yn,yc,rfl⟩:=hhv
 unfold mbV
 clear h hl
 go_enter Tryz.func92,Tryz.ntmps92
 go_wp2_with (go_at_call 90;refine HU.out.mono ?_;rintro e w1 ⟨v1,rfl,h1,g1⟩;obtain ⟨a1,k1,cp1,rfl⟩:=own_form3 h1.1)
 go_ret
 exact WP.al ⟨_,rfl,h1,g1⟩
set_option maxHeartbeats 1000000 in
theorem whandler_any (w0 : World) (v : Value) (l : List Int) (x : Cf.Hn) (w : World) (h : Wr w0 w v l) (hl : l.length + 8 ≤ 140737488355328) :
  Calls Tryz.prog 146 #[v,hnV x] w (WP w0 w v (l ++ Cf.hnB x)):=by
 have HU:=hid (wh_lit w0 v l x w h hl)
 obtain ⟨a0,cp0,rfl⟩:=h.form
 unfold hnV
 clear h hl
 go_enter Tryz.func146,Tryz.ntmps146
 go_wp2_with (go_at_call 90;refine HU.out.mono ?_;rintro e w1 ⟨v1,rfl,h1,g1⟩;obtain ⟨a1,k1,cp1,rfl⟩:=own_form3 h1.1)
 go_ret
 exact WP.al ⟨_,rfl,h1,g1⟩
end Go.Proofs.YtnojgiflgmnjlaaGreatDoor
namespace Go.Proofs.YtnojgiflgmnjlaaGreatDoor
open Go.RowKit
namespace Cf
def U2 (n : Int) : Prop:=0 ≤ n ∧ n < 65536
theorem u2_low (n : Int) (r : List UInt8) : u2 (L3.bsOf (w2 n) ++ r) = .ok (n % 65536,r):=by
 show Except.ok (((UInt8.ofNat (n / 256 % 256).toNat).toNat : Int) * 256 + ((UInt8.ofNat (n % 256).toNat).toNat : Int),r) = _
 rw [L3.u8_val (by omega),L3.u8_val (by omega)]
 have e : n / 256 % 256 * 256 + n % 256 = n % 65536:=by omega
 rw [e]
theorem u2_back {n : Int} (h : U2 n) (r : List UInt8) : u2 (L3.bsOf (w2 n) ++ r) = .ok (n,r):=by
 rw [u2_low]
 unfold U2 at h
 have e : n % 65536 = n:=by omega
 rw [e]
theorem u4_back {n : Int} (h : 0 ≤ n ∧ n < 4294967296) (r : List UInt8) : u4 (L3.bsOf (w4 n) ++ r) = .ok (n,r):=by
 unfold u4 w4
 rw [L3.bsOf_app,List.append_assoc,bnd_ok (u2_low _ _),bnd_ok (u2_low _ _)]
 have e : n / 65536 % 65536 * 65536 + n % 65536 = n:=by omega
 unfold ret
 rw [e]
theorem none_back (r : List UInt8) : noneP (L3.bsOf (w2 0) ++ r) = .ok ((),r):=by
 unfold noneP
 rw [bnd_ok (u2_low _ _)]
 rfl
theorem take_back (a r : List UInt8) : takeP a.length (a ++ r) = .ok (a,r):=by
 unfold takeP
 rw [if_pos (by simp),List.take_left,List.drop_left]
theorem listP_back {α : Type} {p : Ps α} {f : α → List Int} : ∀ (xs : List α),(∀ x ∈ xs,∀ r,p (L3.bsOf (f x) ++ r) = .ok (x,r)) → ∀ r,listP p xs.length (L3.bsOf (xs.flatMap f) ++ r) = .ok (xs,r)
 | [],_,r=>rfl
 | x :: xs,h,r=>by
  show bnd p (fun a=>bnd (listP p xs.length) fun l=>ret (a :: l)) (L3.bsOf ((x :: xs).flatMap f) ++ r) = _
  rw [List.flatMap_cons,L3.bsOf_app,List.append_assoc,bnd_ok (h x (by simp) _),bnd_ok (listP_back xs (fun y hy=>h y (List.mem_cons_of_mem _ hy)) r)]
  rfl
theorem listN_back {α : Type} {p : Ps α} {f : α → List Int} (xs : List α) (hl : xs.length < 65536) (h : ∀ x ∈ xs,∀ r,p (L3.bsOf (f x) ++ r) = .ok (x,r)) (r : List UInt8) :
  listN p (L3.bsOf (w2 xs.length) ++ (L3.bsOf (xs.flatMap f) ++ r)) = .ok (xs,r):=by
 unfold listN
 rw [bnd_ok (u2_back ⟨by omega,by omega⟩ _),Int.toNat_natCast]
 exact listP_back xs h r
def HnU (h : Hn) : Prop:=U2 h.f ∧ U2 h.t ∧ U2 h.a ∧ U2 h.y
theorem hn_back {h : Hn} (hu : HnU h) (r : List UInt8) : hnP (L3.bsOf (hnB h) ++ r) = .ok (h,r):=by
 obtain ⟨h1,h2,h3,h4⟩:=hu
 unfold hnP hnB
 simp only [L3.bsOf_app,List.append_assoc]
 rw [bnd_ok (u2_back h1 _),bnd_ok (u2_back h2 _),bnd_ok (u2_back h3 _),bnd_ok (u2_back h4 _)]
 rfl
def MbU (m : Mb) : Prop:=U2 m.ac ∧ U2 m.nm ∧ U2 m.ds ∧ U2 m.st ∧ U2 m.lc ∧ m.code.length < 65536 ∧ m.hs.length < 65536 ∧ ∀ h ∈ m.hs,HnU h
theorem mb_back {m : Mb} (hu : MbU m) (r : List UInt8) : mbP (L3.bsOf (w2 m.ac) ++ (L3.bsOf (w2 m.nm) ++ (L3.bsOf (w2 m.ds) ++ r))) = .ok (⟨m.ac,m.nm,m.ds,0,0,[],[]⟩,r):=by
 obtain ⟨h1,h2,h3,-⟩:=hu
 unfold mbP
 rw [bnd_ok (u2_back h1 _),bnd_ok (u2_back h2 _),bnd_ok (u2_back h3 _)]
 rfl
theorem fd_back {m : Mb} (hu : MbU m) (hp : plainM m = true) (r : List UInt8) : fdP (L3.bsOf (fdB m) ++ r) = .ok (m,r):=by
 unfold fdP fdB
 simp only [L3.bsOf_app,List.append_assoc]
 rw [bnd_ok (mb_back hu _),bnd_ok (none_back _)]
 unfold plainM at hp
 obtain ⟨h1,h2,h3,h4⟩:=of_decide_eq_true hp
 obtain ⟨ac,nm,ds,st,lc,code,hs⟩:=m
 dsimp only at h1 h2 h3 h4
 obtain rfl:=List.length_eq_zero_iff.1 h3
 obtain rfl:=List.length_eq_zero_iff.1 h4
 subst h1 h2
 rfl
theorem attr_len (m : Mb) : (attrB m).length = 12 + m.code.length + 8 * m.hs.length:=by
 have h : ∀ l : List Hn,(l.flatMap hnB).length = 8 * l.length:=by
  intro l
  induction l with
  | nil=>rfl
  | cons a l ih=>rw [List.flatMap_cons,List.length_append,ih,List.length_cons];show 8 + _ = _;omega
 unfold attrB
 simp only [List.length_append,w2_len,w4_len,h]
 unfold cB
 rw [List.length_map]
 omega
theorem body_back {m : Mb} (hu : MbU m) (r : List UInt8) : bodyP ⟨m.ac,m.nm,m.ds,0,0,[],[]⟩ (L3.bsOf (attrB m) ++ r) = .ok (m,r):=by
 obtain ⟨-,-,-,h4,h5,h6,h7,h8⟩:=hu
 unfold bodyP attrB
 simp only [L3.bsOf_app,List.append_assoc]
 unfold cB
 rw [bnd_ok (u2_back h4 _),bnd_ok (u2_back h5 _),bnd_ok (u4_back ⟨by omega,by omega⟩ _),L3.bsOf_text,Int.toNat_natCast,bnd_ok (take_back _ _),bnd_ok (listN_back _ h7 (fun x hx r=>hn_back (h8 x hx) r) _),bnd_ok (none_back _)]
 rfl
theorem sized_back {m : Mb} (hu : MbU m) (r : List UInt8) : sizedP ((attrB m).length : Int) ⟨m.ac,m.nm,m.ds,0,0,[],[]⟩ (L3.bsOf (attrB m) ++ r) = .ok (m,r):=by
 unfold sizedP
 rw [body_back hu]
 dsimp only
 rw [if_pos (by rw [List.length_append,L3.bsOf_len];omega)]
theorem me_back {m : Mb} (hu : MbU m) {code : Nat} (hc : 1 ≤ code ∧ code < 65536) (r : List UInt8) : meP code (L3.bsOf (meB code m) ++ r) = .ok (m,r):=by
 have hal:=attr_len m
 have h6:=hu.2.2.2.2.2.1
 have h7:=hu.2.2.2.2.2.2.1
 unfold meP meB
 simp only [L3.bsOf_app,List.append_assoc]
 rw [bnd_ok (mb_back hu _),bnd_ok (u2_back ⟨by omega,by omega⟩ _)]
 have e1 : ∀ l : List UInt8,want ((1 : Int) == 1) 43 l = .ok ((),l):=fun l=>rfl
 have e2 : ∀ l : List UInt8,want (decide ((code : Int) = code ∧ (code : Int) ≠ 0)) 43 l = .ok ((),l):=fun l=>by
  unfold want
  rw [if_pos (decide_eq_true ⟨rfl,by omega⟩)]
 rw [bnd_ok (e1 _),bnd_ok (u2_back ⟨by omega,by omega⟩ _),bnd_ok (e2 _),bnd_ok (u4_back ⟨by omega,by omega⟩ _)]
 exact sized_back hu r
structure ClU (c : Cl) : Prop where
 ver : verB c.mi c.ma = true
 ac : U2 c.ac
 th : U2 c.th
 su : U2 c.su
 ck : L3.CkIs c.pool 0
 n6 : ∀ x ∈ c.pool,L3.I6 x.n
 nf : c.fs.length < 65536
 nm : c.ms.length < 65536
 fs : ∀ m ∈ c.fs,MbU m ∧ plainM m = true
 ms : ∀ m ∈ c.ms,MbU m
 cx : cix c.pool < 65536
 c1 : c.ms ≠ [] → 1 ≤ cix c.pool
theorem cl_back {c : Cl} (h : ClU c) : clP (L3.bsOf (clB c)) = .ok (c,[]):=by
 obtain ⟨hv,hac,hth,hsu,hck,hn6,hnf,hnm,hfs,hms,hcx,hc1⟩:=h
 have hver:=hv
 unfold verB at hver
 obtain ⟨v1,v2,v3⟩:=of_decide_eq_true hver
 have hmi : U2 c.mi:=⟨by omega,by omega⟩
 have hma : U2 c.ma:=⟨by omega,by omega⟩
 rw [← List.append_nil (L3.bsOf (clB c))]
 unfold clP clB
 simp only [L3.bsOf_app,List.append_assoc]
 have e1 : ∀ l : List UInt8,want ((3405691582 : Int) == 3405691582) 40 l = .ok ((),l):=fun l=>rfl
 have e2 : ∀ l : List UInt8,want (verB c.mi c.ma) 41 l = .ok ((),l):=fun l=>by rw [hv];rfl
 have e3 : ∀ r : List UInt8,poolP (L3.bsOf (L3.putB c.pool) ++ r) = .ok (c.pool,r):=fun r=>L3.pl_back hck hn6 r
 have e4 : ∀ r : List UInt8,listN (meP (cix c.pool)) (L3.bsOf (w2 c.ms.length) ++ (L3.bsOf (c.ms.flatMap (meB (cix c.pool))) ++ r)) = .ok (c.ms,r):=fun r =>
  listN_back _ hnm (fun x hx r=>me_back (hms x hx) ⟨hc1 (fun e=>by rw [e] at hx;cases hx),hcx⟩ r) r
 rw [bnd_ok (u4_back ⟨by omega,by omega⟩ _),bnd_ok (e1 _),bnd_ok (u2_back hmi _),bnd_ok (u2_back hma _),bnd_ok (e2 _),bnd_ok (e3 _),bnd_ok (u2_back hac _),bnd_ok (u2_back hth _),bnd_ok (u2_back hsu _),bnd_ok (none_back _),
  bnd_ok (listN_back _ hnf (fun x hx r=>fd_back (hfs x hx).1 (hfs x hx).2 r) _),bnd_ok (e4 _),bnd_ok (none_back _)]
 rfl
end Cf
end Go.Proofs.YtnojgiflgmnjlaaGreatDoor
namespace Go.Proofs.YtnojgiflgmnjlaaGreatDoor
open Go.RowKit
theorem wu2_k (w0 : World) (v : Value) (l ns : List Int) (vals : Array Value) (T : TypeId) (k cap b : Nat) (W0 : World) (h : Wr w0 W0 v l) (hv : vals.toList = ns.map (Value.int .i64)) (hl : l.length + 2 * k ≤ 140737488355328) (hk : ns.length = k) (hb : b = W0.heap.size) :
  Calls Tryz.prog 90 #[v,.slice (some ⟨b,0,none⟩) k cap] (W0.alloc (.cells vals T)) (WP w0 W0 v (l ++ ns.flatMap Cf.w2)):=by
 subst hk hb
 exact wu2_lit w0 v l ns vals T cap W0 h hv hl
theorem w2_one (n : Int) : [n].flatMap Cf.w2 = Cf.w2 n:=rfl
theorem take_flat {α β : Type} {f : α → List β} {l : List α} {k : Nat} {x : α} (h : l[k]? = some x) : (l.take (k + 1)).flatMap f = (l.take k).flatMap f ++ f x:=by
 rw [List.take_add_one,h,List.flatMap_append]
 simp
theorem hns_len : ∀ l : List Cf.Hn,(l.flatMap Cf.hnB).length = 8 * l.length
 | []=>rfl
 | a :: l=>by rw [List.flatMap_cons,List.length_append,hns_len l,List.length_cons];show 8 + _ = _;omega
theorem fds_len : ∀ l : List Cf.Mb,(l.flatMap Cf.fdB).length = 8 * l.length
 | []=>rfl
 | a :: l=>by rw [List.flatMap_cons,List.length_append,fds_len l,List.length_cons];show 8 + _ = _;omega
theorem grows_al {w w' : World} {v v' : Value} {o : Obj} (h : Kit.Grows (w.alloc o) w' v v') : Kit.Grows w w' v v':=((Kit.Grows.refl w v).below ((Below.refl _ _).alloc (Nat.le_refl _) _)).trans h
def whFn : Value:=.func (.func 146) #[] #[]
set_option maxHeartbeats 1000000 in
theorem whs_any (w0 : World) (v : Value) (l : List Int) (hs : List Cf.Hn) (hv : Value) (w : World) (h : Wr w0 w v l) (hS : Kit.IsS 4 w0 hv hs.length (hs.flatMap hL)) (hl : l.length + 2 + 8 * hs.length ≤ 140737488355328) :
  Calls Tryz.prog 145 #[v,hv,whFn] w (WP w0 w v (l ++ Cf.w2 hs.length ++ hs.flatMap Cf.hnB)):=by
 have HW:=hid h
 have HS:=hid hS
 have HL:=hid hl
 have HH:=hid (fun (v : Value) (l : List Int) (x : Cf.Hn) (w : World) h hl=>whandler_any w0 v l x w h hl)
 obtain ⟨a0,cp0,rfl⟩:=h.form
 obtain ⟨ha,hc,rfl⟩:=hS.len
 unfold whFn
 unfold hnV at HH
 have hhl:=hS.2.1
 clear h hS hl
 go_enter Tryz.func145,Tryz.ntmps145
 go_wp2_with (go_at_call 90;refine (wu2_k w0 _ _ [(hs.length : Int)] _ _ 1 1 _ _ HW.out rfl (by have:=HL.out;omega) rfl rfl).mono ?_;rintro e w1 ⟨v1,rfl,h1,g1⟩;rw [w2_one] at h1;have H1:=hid h1;have G1:=hid g1;obtain ⟨a1,k1,cp1,rfl⟩:=own_form3 h1.1;clear h1 g1)
 go_loopw [0,16] (fun u i wr=>∃ k : Nat,k ≤ hs.length ∧ i = .int .i64 k ∧ Hid (Wr w0 wr u (l ++ Cf.w2 hs.length ++ (hs.take k).flatMap Cf.hnB)) ∧ Hid (Kit.Grows w wr (.slice a0 l.length cp0) u)) (fun _ i _=>hs.length - (intOf i).toNat)
 case atStart=>exact ⟨0,by omega,rfl,hid (by simpa using H1.out),G1⟩
 case round =>
  obtain ⟨k,hk,rfl,HR,HG⟩:=hrel
  obtain ⟨a2,k2,cp2,rfl⟩:=own_form3 HR.out.1
  by_cases hlt : k < hs.length
  ·obtain ⟨x,hx⟩ : ∃ x,hs[k]? = some x:=⟨hs[k],List.getElem?_eq_getElem hlt⟩
   obtain ⟨b,o,cap',hv2,hb,c0,c1,c2,c3⟩:=h_at (HS.out.below HR.out.2 (Nat.le_refl _)) hx
   obtain ⟨rfl,-,rfl⟩:=Value.slice.inj hv2
   have HX:=hid hx
   have hki : (k : Int) < (hs.length : Int):=by omega
   have HLn:=hid (show (l ++ Cf.w2 hs.length ++ (hs.take k).flatMap Cf.hnB).length + 8 ≤ 140737488355328 by rw [List.length_append,List.length_append,hns_len,List.length_take,Cf.w2_len];have:=HL.out;omega)
   obtain ⟨xf,xt,xa,xy⟩:=x
   dsimp only at c0 c1 c2 c3
   clear hx hv2
   go_wp2_with (go_at_call 146;refine (HH.out _ _ ⟨xf,xt,xa,xy⟩ _ (HR.out.alloc _) HLn.out).mono ?_;rintro e w2 ⟨v2,rfl,h2,g2⟩;have H2:=hid h2;have G2:=hid (grows_al (w:=wr) g2);clear h2 g2)
   go_roundw
   case rel=>exact ⟨k + 1,by omega,by go_num,hid (by rw [take_flat HX.out,← List.append_assoc];exact H2.out),hid (HG.out.trans G2.out)⟩
   case measure=>simp [intOf];omega
  ·obtain rfl : k = hs.length:=by omega
   have H9:=HR.out
   rw [List.take_length] at H9
   have H9:=hid H9
   go_wp2
   go_ret
   exact ⟨_,rfl,H9.out,HG.out⟩
def wfFn : Value:=.func (.func 92) #[] #[]
set_option maxHeartbeats 1000000 in
theorem wfs_any (w0 : World) (v : Value) (l : List Int) (fs : List Cf.Mb) (fv : Value) (w : World) (h : Wr w0 w v l) (hF : MsR w0 fv fs) (hl : l.length + 2 + 8 * fs.length ≤ 140737488355328) :
  Calls Tryz.prog 91 #[v,fv,wfFn] w (WP w0 w v (l ++ Cf.w2 fs.length ++ fs.flatMap Cf.fdB)):=by
 have HW:=hid h
 have HS:=hid hF
 have HL:=hid hl
 have HH:=hid (fun (v : Value) (l : List Int) (m : Cf.Mb) (cv hv : Value) (w : World) h hl hc hh=>wfield_any w0 v l m cv hv w h hl hc hh)
 obtain ⟨a0,cp0,rfl⟩:=h.form
 obtain ⟨ha,hc,rfl⟩:=hF.len
 unfold wfFn
 unfold mbV at HH
 have hhl:=hF.size
 clear h hF hl
 go_enter Tryz.func91,Tryz.ntmps91
 go_wp2_with (go_at_call 90;refine (wu2_k w0 _ _ [(fs.length : Int)] _ _ 1 1 _ _ HW.out rfl (by have:=HL.out;omega) rfl rfl).mono ?_;rintro e w1 ⟨v1,rfl,h1,g1⟩;rw [w2_one] at h1;have H1:=hid h1;have G1:=hid g1;obtain ⟨a1,k1,cp1,rfl⟩:=own_form3 h1.1;clear h1 g1)
 go_loopw [0,16] (fun u i wr=>∃ k : Nat,k ≤ fs.length ∧ i = .int .i64 k ∧ Hid (Wr w0 wr u (l ++ Cf.w2 fs.length ++ (fs.take k).flatMap Cf.fdB)) ∧ Hid (Kit.Grows w wr (.slice a0 l.length cp0) u)) (fun _ i _=>fs.length - (intOf i).toNat)
 case atStart=>exact ⟨0,by omega,rfl,hid (by simpa using H1.out),G1⟩
 case round =>
  obtain ⟨k,hk,rfl,HR,HG⟩:=hrel
  obtain ⟨a2,k2,cp2,rfl⟩:=own_form3 HR.out.1
  by_cases hlt : k < fs.length
  ·obtain ⟨⟨ac,nm,ds,st,lc,co,hs9⟩,hx⟩ : ∃ x,fs[k]? = some x:=⟨fs[k],List.getElem?_eq_getElem hlt⟩
   obtain ⟨b,o,cap',cv,hw,hv2,hbb,hB,hH,hcl,c0,c1,c2,c3,c4,c5,c6⟩:=(HS.out.below HR.out.2 (Nat.le_refl _)).at hx
   obtain ⟨rfl,-,rfl⟩:=Value.slice.inj hv2
   have HX:=hid hx
   have hki : (k : Int) < (fs.length : Int):=by omega
   have HLn:=hid (show (l ++ Cf.w2 fs.length ++ (fs.take k).flatMap Cf.fdB).length + 8 ≤ 140737488355328 by rw [List.length_append,List.length_append,fds_len,List.length_take,Cf.w2_len];have:=HL.out;omega)
   dsimp only at c0 c1 c2 c3 c4 c5 c6 hB hH
   obtain ⟨xa,xc,rfl⟩:=hB.len
   obtain ⟨ya,yc,rfl⟩:=hH.len
   clear hx hv2 hB hH hcl
   go_wp2_with (go_at_call 92;refine (HH.out _ _ ⟨ac,nm,ds,st,lc,co,hs9⟩ _ _ _ (HR.out.alloc _) HLn.out ⟨_,_,_,rfl⟩ ⟨_,_,_,rfl⟩).mono ?_;rintro e w2 ⟨v2,rfl,h2,g2⟩;have H2:=hid h2;have G2:=hid (grows_al (w:=wr) g2);clear h2 g2)
   go_roundw
   case rel=>exact ⟨k + 1,by omega,by go_num,hid (by rw [take_flat HX.out,← List.append_assoc];exact H2.out),hid (HG.out.trans G2.out)⟩
   case measure=>simp [intOf];omega
  ·obtain rfl : k = fs.length:=by omega
   have H9:=HR.out
   rw [List.take_length] at H9
   have H9:=hid H9
   go_wp2
   go_ret
   exact ⟨_,rfl,H9.out,HG.out⟩
end Go.Proofs.YtnojgiflgmnjlaaGreatDoor
namespace Go.Proofs.YtnojgiflgmnjlaaGreatDoor
open Go.RowKit
theorem own_app {w : World} {base k : Nat} {v : Value} {l ns : List Int} {news : List Value} (hn : news = ns.map (Value.int .u8)) (hk : k = ns.length) (h : w.ownsRow base 5 1 v (l.length + k) (l.map (Value.int .u8) ++ news)) : L3.OwnI w base v (l ++ ns):=by
 subst hn hk
 unfold L3.OwnI
 rw [List.length_append,List.map_append]
 exact h
theorem cB_vals (l : List UInt8) : l.map L3.bv = (Cf.cB l).map (Value.int .u8):=by
 unfold Cf.cB
 rw [List.map_map]
 rfl
theorem ones_i (l : List Int) : ∀ u ∈ l.map (Value.int .u8),u.oneCell' = true:=by
 intro u hu
 rw [List.mem_map] at hu
 obtain ⟨z,-,rfl⟩:=hu
 rfl
theorem bs_some {lim : Nat} {w : World} {v : Value} {bs : List UInt8} (h : L3.Bs lim w v bs) (hn : 0 < bs.length) : ∃ b o cap,v = .slice (some ⟨b,o,none⟩) bs.length cap ∧ b < lim ∧ ∀ j u,(bs.map L3.bv)[j]? = some u → w.cell? ⟨b,o + j,none⟩ = some u:=by
 rcases h.2 with ⟨rfl,-⟩|⟨b,o,cap,rfl,-,hb,hc⟩
 ·simp at hn
 ·refine ⟨b,o,cap,rfl,hb,fun j u hj=>?_⟩
  rw [List.getElem?_map,Option.map_eq_some_iff] at hj
  obtain ⟨c,hc2,rfl⟩:=hj
  exact hc j c hc2
theorem own_some {w : World} {base : Nat} {v : Value} {l : List Int} (h : L3.OwnI w base v l) (hn : 0 < l.length) : ∃ g cap,v = .slice (some ⟨g,0,none⟩) l.length cap ∧ g < w.heap.size ∧ ∀ j u,(l.map (Value.int .u8))[j]? = some u → w.cell? ((⟨g,0,none⟩ : Addr).add j) = some u:=by
 rcases h.2 with ⟨rfl,h2⟩|⟨g,cap,cur,rfl,hg,hh,-⟩
 ·omega
 ·exact ⟨g,cap,rfl,(Array.getElem?_eq_some_iff.1 hh).1,fun j u hj=>h.cells (g:=g) rfl j u hj⟩
theorem add_at (b o j : Nat) : (⟨b,o,none⟩ : Addr).add j = ⟨b,o + j,none⟩:=Go.WideShapes.add_plain b o j
theorem attr_parts (m : Cf.Mb) : ([] ++ [m.st,m.lc].flatMap Cf.w2 ++ Cf.w4 m.code.length ++ Cf.cB m.code ++ Cf.w2 m.hs.length ++ m.hs.flatMap Cf.hnB) ++ [0].flatMap Cf.w2 = Cf.attrB m:=by
 unfold Cf.attrB
 simp [List.append_assoc]
theorem me_parts (l : List Int) (code : Nat) (m : Cf.Mb) : l ++ [m.ac,m.nm,m.ds,1,(code : Int)].flatMap Cf.w2 ++ Cf.w4 (Cf.attrB m).length ++ Cf.attrB m = l ++ Cf.meB code m:=by
 unfold Cf.meB
 simp [List.append_assoc]
def WPo (w0 w : World) (v : Value) (l' : List Int) (e : Ending) (w' : World) : Prop:=∃ v' L,e = .returned v' ∧ Wr w0 w' v' L ∧ Hid (L = l') ∧ Kit.Grows w w' v v'
theorem wpo {f : FuncId} {args : Array Value} {w0 w wv : World} {v : Value} {l' : List Int} (h : Calls Tryz.prog f args wv (WP w0 w v l')) : Calls Tryz.prog f args wv (WPo w0 w v l') :=
 h.mono fun _ _ ⟨v',h1,h2,h3⟩=>⟨v',l',h1,h2,rfl,h3⟩
theorem Wr.opq {w0 w : World} {v : Value} {l : List Int} (h : Wr w0 w v l) : ∃ L,Hid (L = l) ∧ Wr w0 w v L:=⟨l,rfl,h⟩
set_option maxHeartbeats 4000000 in
theorem wmethod_any (w0 : World) (v : Value) (l : List Int) (m : Cf.Mb) (cv hv : Value) (code : Nat) (w : World) (h : Wr w0 w v l) (hB : L3.Bs w0.heap.size w0 cv m.code) (hH : Kit.IsS 4 w0 hv m.hs.length (m.hs.flatMap hL)) (hc : 0 < m.code.length)
  (hl : l.length + 26 + m.code.length + 8 * m.hs.length ≤ 1099511627776) :
  Calls Tryz.prog 96 #[v,mbV m cv hv,.int .i64 (code : Nat)] w (WP w0 w v (l ++ Cf.meB code m)):=by
 obtain ⟨i0,hi,hz0,hz1,hz2⟩:=info_parts infoB
 obtain ⟨xb,xo,xc,rfl,hxb,hxc⟩:=bs_some hB hc
 obtain ⟨ya,yc,rfl⟩:=hH.len
 obtain ⟨va,vc,rfl⟩:=h.form
 have HW:=hid h
 have HS:=hid hH
 have HL:=hid hl
 have HXC:=hid hxc
 have HAt:=hid (Cf.attr_len m)
 have HAp:=hid (attr_parts m)
 have HMp:=hid (me_parts l code m)
 obtain ⟨AL,hAL⟩ : ∃ L,L = Cf.attrB m:=⟨_,rfl⟩
 rw [← hAL] at HAt HAp HMp
 obtain ⟨ML,hML⟩ : ∃ L,L = l ++ Cf.meB code m:=⟨_,rfl⟩
 rw [← hML] at HMp ⊢
 clear hAL hML
 obtain ⟨ac,nm,ds,st,lc,co,hs9⟩:=m
 dsimp only at HS HL HXC HAt hc HAp HMp hl
 unfold mbV
 dsimp only
 have hcl : co.length ≤ 1099511627776:=by omega
 have hhl : hs9.length ≤ 1099511627776:=by omega
 clear h hB hH hl hxc
 go_enter Tryz.func96,Tryz.ntmps96
 go_wp2_with fail
 have bX:=L3.BX.new w #[.int .i64 ac,.int .i64 nm,.int .i64 ds,.int .i64 st,.int .i64 lc,.slice (some ⟨xb,xo,none⟩) co.length xc,.slice ya hs9.length yc] 42
 have HW1:=hid (HW.out.alloc (.cells #[.int .i64 ac,.int .i64 nm,.int .i64 ds,.int .i64 st,.int .i64 lc,.slice (some ⟨xb,xo,none⟩) co.length xc,.slice ya hs9.length yc] 42))
 have hzW : (w.alloc (.cells #[.int .i64 ac,.int .i64 nm,.int .i64 ds,.int .i64 st,.int .i64 lc,.slice (some ⟨xb,xo,none⟩) co.length xc,.slice ya hs9.length yc] 42)).heap.size = w.heap.size + 1:=World.size_alloc _ _
 have G1:=hid ((Kit.Grows.refl w (.slice va l.length vc)).below ((Below.refl _ _).alloc (Nat.le_refl _) (.cells #[.int .i64 ac,.int .i64 nm,.int .i64 ds,.int .i64 st,.int .i64 lc,.slice (some ⟨xb,xo,none⟩) co.length xc,.slice ya hs9.length yc] 42)))
 obtain ⟨W1,hW1⟩ : ∃ W1,W1 = w.alloc (.cells #[.int .i64 ac,.int .i64 nm,.int .i64 ds,.int .i64 st,.int .i64 lc,.slice (some ⟨xb,xo,none⟩) co.length xc,.slice ya hs9.length yc] 42):=⟨_,rfl⟩
 rw [← hW1] at bX HW1 hzW G1 ⊢
 rw [← hzW]
 have BX:=hid bX
 have HS1:=hid (HS.out.below HW1.out.2 (Nat.le_refl _))
 clear hW1 bX
 (go_wp2_with (first|(go_at_call 90;have _g:=HA5;have HB5:=HW1.out.below HA5.out.2;refine (wpo (wu2_k w0 _ l [ac,nm,ds,1,(code : Int)] _ _ 5 5 _ _ HB5 rfl (by (have:=HL.out;omega)) rfl rfl)).mono ?_;rintro e W6 ⟨v6,L6,rfl,h6,HL6,g6⟩;have ha:=grows_owns g6 HA5.out.1 (fun k hk e9=>by (have q1:=Kit.own_base HA5.out.1 k hk;have q2:=Kit.own_lt HW1.out.1 k e9;omega));have HA6:=hid ha;have G6:=hid ((G1.out.below HA5.out.2).trans g6);have HE6:=hid (show L6.length = l.length + 10 from by (rw [HL6.out,List.length_append];rfl));obtain ⟨a6,k6,c6,rfl⟩:=own_form3 h6.1;have HB6:=hid h6;clear h6 g6 ha HB5)|(go_at_call 90;have _g:=HA4;(fail_if_success (have _g:=HA5));refine (wpo (wu2_k W1 _ _ [(0 : Int)] _ _ 1 1 _ _ HA4.out rfl (by (have:=HE4.out;omega)) rfl rfl)).mono ?_;rintro e W5 ⟨v5,L5,rfl,h5,HL5,g5⟩;have hL5 : L5 = AL:=(by (rw [HL5.out,HL4.out,HL3.out,HL2.out,HL1.out];exact HAp.out));subst hL5;obtain ⟨g,gc,rfl,hgl,-⟩:=own_some h5.1 (by (rw [HAt.out];omega));have HB9:=h5.2;have bX:=BX.out.below HB9 BX.out.sz;have m0:=bX.cell 0;have m1:=bX.cell 1;have m2:=bX.cell 2;have m5:=bX.cell 5;have m6:=bX.cell 6;simp at m0 m1 m2 m5 m6;clear bX HB9;have HA5:=hid h5;clear h5 g5 hgl)|(go_at_call 90;(fail_if_success (have _g:=HA1));refine (wpo (wu2_k W1 _ [] [st,lc] _ _ 2 2 _ _ (Wr.nil W1 W1 (Below.refl _ _)) rfl (by decide) rfl rfl)).mono ?_;rintro e Wa ⟨v1,L1,rfl,h1,HL1,g1⟩;have HE1:=hid (show L1.length = 4 from by (rw [HL1.out];rfl));obtain ⟨a1,k1,c1,rfl⟩:=own_form3 h1.1;have HB9:=h1.2;have bX:=BX.out.below HB9 BX.out.sz;have m0:=bX.cell 0;have m1:=bX.cell 1;have m2:=bX.cell 2;have m5:=bX.cell 5;have m6:=bX.cell 6;simp at m0 m1 m2 m5 m6;clear bX HB9;have HA1:=hid h1;clear h1 g1)|(go_at_call 89;have _g:=HB6;refine (wpo (wu4_wr w0 _ _ _ _ HB6.out (by (have:=HL.out;have:=HE6.out;omega)))).mono ?_;rintro e W7 ⟨v7,L7,rfl,h7,HL7,g7⟩;have ha:=grows_owns g7 HA6.out.1 HA6.out.2;have HA7:=hid ha;have G7:=hid (G6.out.trans g7);have HE7:=hid (show L7.length = l.length + 14 from by (have h9:=congrArg List.length HL7.out;rw [List.length_append,HE6.out,Cf.w4_len] at h9;omega));obtain ⟨a7,k7,c7,rfl⟩:=own_form3 h7.1;have HB7:=hid h7;clear h7 g7 ha)|(go_at_call 89;(fail_if_success (have _g:=HA2));refine (wpo (wu4_wr W1 _ _ _ _ HA1.out (by (have:=HE1.out;omega)))).mono ?_;rintro e W2 ⟨v2,L2,rfl,h2,HL2,g2⟩;have HE2:=hid (show L2.length = 8 from by (rw [HL2.out,List.length_append,HE1.out,Cf.w4_len]));obtain ⟨a2,k2,c2,rfl⟩:=own_form3 h2.1;have HB9:=h2.2;have bX:=BX.out.below HB9 BX.out.sz;have m0:=bX.cell 0;have m1:=bX.cell 1;have m2:=bX.cell 2;have m5:=bX.cell 5;have m6:=bX.cell 6;simp at m0 m1 m2 m5 m6;clear bX HB9;have HA2:=hid h2;clear h2 g2)|(go_at_call 145;refine (wpo (whs_any W1 _ _ hs9 _ _ HA3.out HS1.out (by (have:=HL.out;have:=HE3.out;omega)))).mono ?_;rintro e W4 ⟨v4,L4,rfl,h4,HL4,g4⟩;have HE4:=hid (show L4.length = 10 + co.length + 8 * hs9.length from by (rw [HL4.out,List.length_append,List.length_append,HE3.out,Cf.w2_len,hns_len];omega));obtain ⟨a4,k4,c4,rfl⟩:=own_form3 h4.1;have HB9:=h4.2;have bX:=BX.out.below HB9 BX.out.sz;have m0:=bX.cell 0;have m1:=bX.cell 1;have m2:=bX.cell 2;have m5:=bX.cell 5;have m6:=bX.cell 6;simp at m0 m1 m2 m5 m6;clear bX HB9;have HA4:=hid h4;clear h4 g4)|(at_builtin;have _g:=HB7;refine wpList_append_own_at _ rfl (.tmp 44) (.tmp 45) 22 rfl w0.heap.size 5 i0 _ 1 1 Tryz.underlying22 hi hz0 hz1 hz2 rfl (by decide) _ _ _ rfl HB7.out.1 ⟨g,0,none⟩ L5.length gc (L5.map (Value.int .u8)) rfl (by rw [List.length_map,Nat.mul_one]) (fun j u hj=>HA7.out.1.cells (g:=g) rfl j u hj) (ones_i _) (by (have:=HL.out;have:=HAt.out;have:=HE7.out;unfold maxLen;omega)) (by (have:=HL.out;have:=HAt.out;have:=HE7.out;omega)) HB7.out.2.size ?_;intro v8 W8 ho8 hg8 _ hk8;have h8:=own_app rfl rfl ho8;rw [HL7.out,HL6.out,HMp.out] at h8;have g8:=Kit.grows_append (Below.refl _ _) hg8 hk8;have G8:=hid (G7.out.trans g8);have H8:=hid (HB7.out.grow h8 g8);obtain ⟨a8,k8,c8,rfl⟩:=own_form3 h8;clear h8 g8 ho8 hg8 hk8)|(at_builtin;(fail_if_success (have _g:=HA3));refine wpList_append_own_at _ rfl (.tmp 19) (.tmp 21) 22 rfl W1.heap.size 5 i0 _ 1 1 Tryz.underlying22 hi hz0 hz1 hz2 rfl (by decide) _ _ _ rfl HA2.out.1 ⟨xb,xo,none⟩ co.length xc (co.map L3.bv) rfl (by rw [List.length_map,Nat.mul_one]) (fun j u hj=>by (rw [add_at];exact ((belows HW1.out.2 HA2.out.2 HW1.out.2.size).cell (p:=⟨xb,xo + j,none⟩) (by simpa using hxb)).trans (HXC.out j u hj))) (ones_b co) (by (have:=HE2.out;unfold maxLen;omega)) (by (have:=HE2.out;omega)) HA2.out.2.size ?_;intro v3 W3 ho3 hg3 _ hk3;obtain ⟨Lc,HL3,h3⟩:=Wr.opq (HA2.out.grow (own_app (cB_vals co) (by simp [Cf.cB]) ho3) (Kit.grows_append (Below.refl _ _) hg3 hk3));have HE3:=hid (show Lc.length = 8 + co.length from by (rw [HL3.out,List.length_append,HE2.out];simp [Cf.cB]));obtain ⟨a3,k3,c3,rfl⟩:=own_form3 h3.1;have HB9:=h3.2;have bX:=BX.out.below HB9 BX.out.sz;have m0:=bX.cell 0;have m1:=bX.cell 1;have m2:=bX.cell 2;have m5:=bX.cell 5;have m6:=bX.cell 6;simp at m0 m1 m2 m5 m6;clear bX HB9;have HA3:=hid h3;clear h3 ho3 hg3 hk3));go_ret;exact ⟨_,rfl,H8.out,G8.out⟩)
end Go.Proofs.YtnojgiflgmnjlaaGreatDoor
