/- ClassfileOwn is true for every class, as long as the listed tables of packages opcode and cpool hold what the text of the program lays there (the card ties it). -/
import Derived.Test.YtnojgiflgmnjlaaGreatDoorZO24
import Derived.Test.YtnojgiflgmnjlaaGreatDoorRows
import Derived.ChangeSlices
set_option maxRecDepth 100000
namespace Go.Proofs.YtnojgiflgmnjlaaGreatDoor
open Go.RowKit
theorem two {w : World} {c0 c1 : Array Value} {T0 T1 : TypeId} {W : World} (h : W = (w.alloc (.cells c0 T0)).alloc (.cells c1 T1)) :
  L3.BX W w.heap.size c0 T0 ∧ L3.BX W (w.heap.size + 1) c1 T1 ∧ W.heap.size = w.heap.size + 2 ∧ Below w.heap.size w W:=by
 subst h
 have b0:=BX.al (L3.BX.new w c0 T0) (.cells c1 T1)
 have b1:=L3.BX.new (w.alloc (.cells c0 T0)) c1 T1
 simp only [World.size_alloc] at b1
 exact ⟨b0,b1,by simp only [World.size_alloc],BLw⟩
set_option maxHeartbeats 1000000 in
theorem withField_at (c : Cf.Cl) (vs : Array Value) (mac : Int) (co : List UInt8) (hs9 : List Cf.Hn) (a b : ByteArray) (w : World) (hk : Ck w c) (h : ClR w vs c) (hs : Cf.Szc c) (hz : PoolSz c.pool) (hco : co = []) (hhs : hs9 = [])
  (ha : a.size ≤ 140737488355328) (hb : b.size ≤ 140737488355328) (hms : (c.fs.length + 1) * 88 ≤ 140737488355328) :
  Calls Tryz.prog 26 #[.agg vs,.int .i64 mac,.string a,.string b] w (WtPost (mkF c) c ⟨mac,0,0,0,0,co,hs9⟩ a b w):=by
 obtain ⟨i0,hi,hz0,hz1,hz2i⟩:=info_parts infoM
 have HK:=hid hk
 have HNd:=hid (fun W (k : Below w.heap.size w W)=>named_any c vs ⟨mac,0,0,0,0,co,hs9⟩ (.slice none 0 0) (.slice none 0 0) a b W (hk.t3.below k hk.t3.size) (h.below k (Nat.le_refl _)) hs hz (by subst hco;exact ⟨by simp,.inl ⟨rfl,none,0,rfl⟩⟩) (by subst hhs;exact ⟨rfl,by simp,.inl ⟨rfl,none,0,rfl⟩⟩) (by subst hco;simp) (by subst hhs;simp) ha hb)
 obtain ⟨pv,fv,mv,rfl,hp,hf,hm⟩:=h
 obtain ⟨pa,pc,rfl⟩:=hp.len
 obtain ⟨fa,fc,rfl⟩:=hf.len
 obtain ⟨ma2,mc,rfl⟩:=hm.len
 have HSz:=hid hs
 obtain ⟨mi,ma,P,ac,th,su,fs,ms⟩:=c
 unfold mbV at HNd
 dsimp only at HNd HSz hms ⊢
 have HMs:=hid hms
 clear hk hp hf hm ha hb hs hz hms hco hhs
 go_enter Tryz.func26,Tryz.ntmps26
 go_wp2_with fail
 obtain ⟨W1,hW1⟩ : ∃ W1,W1 = ((w.alloc (.cells #[.int .i64 mi,.int .i64 ma,.slice pa P.length pc,.int .i64 ac,.int .i64 th,.int .i64 su,.slice fa fs.length fc,.slice ma2 ms.length mc] 26)).alloc (.cells #[.int .i64 0,.int .i64 0,.slice none 0 0,.int .i64 0,.int .i64 0,.int .i64 0,.slice none 0 0,.slice none 0 0] 26)):=⟨_,rfl⟩
 obtain ⟨bC,bR,hzW,B1⟩:=two hW1
 rw [← hW1]
 have HB1:=hid B1
 have BC1:=hid bC
 have BR1:=hid bR
 clear hW1 bC bR B1
 go_wp2_with (first|(go_at_call 65;(fail_if_success (have _g:=HS1));go_loud (refine (HNd.out W1 HB1.out).mono ?_;rintro e w2 hN;unfold NdPost at hN;rcases hN with ⟨l1,i1,e1,l2,i2,e2,hS1,hS2,(⟨hz,rfl⟩|⟨rfl,vs9,cv9,hv9,rfl,oC,oM,hPz,hAp⟩),hb2⟩;all_goals (have HS1:=hid hS1;have HS2:=hid hS2;have HB2:=hid hb2;have bC:=BC1.out.below hb2 BC1.out.sz;have bR:=BR1.out.below hb2 BR1.out.sz;have hz2 : W1.heap.size ≤ w2.heap.size:=hb2.size;have hzc2 : w.heap.size < w2.heap.size:=(by omega);have hzr2 : w.heap.size + 1 < w2.heap.size:=(by omega);have c0:=bC.cell 0;have fc0:=bC.frozen 0;have c1:=bC.cell 1;have fc1:=bC.frozen 1;have c2:=bC.cell 2;have fc2:=bC.frozen 2;have c3:=bC.cell 3;have fc3:=bC.frozen 3;have c4:=bC.cell 4;have fc4:=bC.frozen 4;have c5:=bC.cell 5;have fc5:=bC.frozen 5;have c6:=bC.cell 6;have fc6:=bC.frozen 6;have c7:=bC.cell 7;have fc7:=bC.frozen 7;simp at c0 c1 c2 c3 c4 c5 c6 c7;have r0:=bR.cell 0;have fr0:=bR.frozen 0;have r1:=bR.cell 1;have fr1:=bR.frozen 1;have r2:=bR.cell 2;have fr2:=bR.frozen 2;have r3:=bR.cell 3;have fr3:=bR.frozen 3;have r4:=bR.cell 4;have fr4:=bR.frozen 4;have r5:=bR.cell 5;have fr5:=bR.frozen 5;have r6:=bR.cell 6;have fr6:=bR.frozen 6;have r7:=bR.cell 7;have fr7:=bR.frozen 7;simp at r0 r1 r2 r3 r4 r5 r6 r7;clear bC bR hb2 hS1 hS2);all_goals (first|(have hdd : (e2 != 0) = true:=(by simpa using hz);have HZ:=hid hz;clear hz;unfold K0V mbV Cf.M0;dsimp only)|(have OC2:=hid oC;have OM2:=hid oM;have HPz:=hid hPz;have HAp:=hid hAp;obtain ⟨pv9,fv9,mv9,rfl,o1,o2,o3⟩:=oC;obtain ⟨pa9,pc9,rfl⟩:=L3.own_form o1;obtain ⟨fa9,fc9,rfl⟩:=OMs.form o2;obtain ⟨ma9,mc9,rfl⟩:=OMs.form o3;obtain ⟨cv3,hv3,he3,oc,oh,-,-⟩:=oM;obtain ⟨rfl,rfl⟩ : cv9 = cv3 ∧ hv9 = hv3:=(by simpa [mL] using he3);obtain ⟨xa2,xc2,rfl⟩:=L3.own_form oc;obtain ⟨ya2,yc2,rfl⟩:=L3.own_form oh;unfold mbV;dsimp only at OC2 OM2 ⊢;clear o1 o2 o3 oc oh he3 hPz hAp))))|(at_builtin;have _g:=OC2;(fail_if_success (have _g:=HO4));go_loud (have g8:=grown8 w2 (w.heap.size) (.int .i64 mi) (.int .i64 ma) (.slice pa9 l2.length pc9) (.int .i64 ac) (.int .i64 th) (.int .i64 su) (.slice fa9 fs.length fc9) (.slice ma9 ms.length mc9);have hal : Below ((((((((w2.setCell ⟨w.heap.size,0,none⟩ (.int .i64 mi)).setCell ⟨w.heap.size,1,none⟩ (.int .i64 ma)).setCell ⟨w.heap.size,2,none⟩ (.slice pa9 l2.length pc9)).setCell ⟨w.heap.size,3,none⟩ (.int .i64 ac)).setCell ⟨w.heap.size,4,none⟩ (.int .i64 th)).setCell ⟨w.heap.size,5,none⟩ (.int .i64 su)).setCell ⟨w.heap.size,6,none⟩ (.slice fa9 fs.length fc9)).setCell ⟨w.heap.size,7,none⟩ (.slice ma9 ms.length mc9)).heap.size ((((((((w2.setCell ⟨w.heap.size,0,none⟩ (.int .i64 mi)).setCell ⟨w.heap.size,1,none⟩ (.int .i64 ma)).setCell ⟨w.heap.size,2,none⟩ (.slice pa9 l2.length pc9)).setCell ⟨w.heap.size,3,none⟩ (.int .i64 ac)).setCell ⟨w.heap.size,4,none⟩ (.int .i64 th)).setCell ⟨w.heap.size,5,none⟩ (.int .i64 su)).setCell ⟨w.heap.size,6,none⟩ (.slice fa9 fs.length fc9)).setCell ⟨w.heap.size,7,none⟩ (.slice ma9 ms.length mc9)) (((((((((w2.setCell ⟨w.heap.size,0,none⟩ (.int .i64 mi)).setCell ⟨w.heap.size,1,none⟩ (.int .i64 ma)).setCell ⟨w.heap.size,2,none⟩ (.slice pa9 l2.length pc9)).setCell ⟨w.heap.size,3,none⟩ (.int .i64 ac)).setCell ⟨w.heap.size,4,none⟩ (.int .i64 th)).setCell ⟨w.heap.size,5,none⟩ (.int .i64 su)).setCell ⟨w.heap.size,6,none⟩ (.slice fa9 fs.length fc9)).setCell ⟨w.heap.size,7,none⟩ (.slice ma9 ms.length mc9)).alloc (.cells #[.int .i64 mac,.int .i64 (i1 : Nat),.int .i64 (i2 : Nat),.int .i64 0,.int .i64 0,.slice xa2 co.length xc2,.slice ya2 hs9.length yc2] 42)):=(Below.refl _ _).alloc (Nat.le_refl _) _;have bC:=BX.al (put8 (BC1.out.below HB2.out BC1.out.sz) rfl (.int .i64 mi) (.int .i64 ma) (.slice pa9 l2.length pc9) (.int .i64 ac) (.int .i64 th) (.int .i64 su) (.slice fa9 fs.length fc9) (.slice ma9 ms.length mc9)) (.cells #[.int .i64 mac,.int .i64 (i1 : Nat),.int .i64 (i2 : Nat),.int .i64 0,.int .i64 0,.slice xa2 co.length xc2,.slice ya2 hs9.length yc2] 42);have bR:=BX.al ((BR1.out.below HB2.out BR1.out.sz).grown g8 (fun e=>by (have:=Option.some.inj e;omega))) (.cells #[.int .i64 mac,.int .i64 (i1 : Nat),.int .i64 (i2 : Nat),.int .i64 0,.int .i64 0,.slice xa2 co.length xc2,.slice ya2 hs9.length yc2] 42);have oC:=(OC2.out.grown g8 (by omega)).below hal (Nat.le_refl _);have oM:=(OM2.out.grown g8 (by omega)).below hal (Nat.le_refl _);have B2a:=nwB (belows HB1.out HB2.out HB1.out.size) g8 ⟨Nat.le_refl _,by omega⟩;have B3:=B2a.alloc B2a.size (.cells #[.int .i64 mac,.int .i64 (i1 : Nat),.int .i64 (i2 : Nat),.int .i64 0,.int .i64 0,.slice xa2 co.length xc2,.slice ya2 hs9.length yc2] 42);have hz3 : W1.heap.size ≤ (((((((((w2.setCell ⟨w.heap.size,0,none⟩ (.int .i64 mi)).setCell ⟨w.heap.size,1,none⟩ (.int .i64 ma)).setCell ⟨w.heap.size,2,none⟩ (.slice pa9 l2.length pc9)).setCell ⟨w.heap.size,3,none⟩ (.int .i64 ac)).setCell ⟨w.heap.size,4,none⟩ (.int .i64 th)).setCell ⟨w.heap.size,5,none⟩ (.int .i64 su)).setCell ⟨w.heap.size,6,none⟩ (.slice fa9 fs.length fc9)).setCell ⟨w.heap.size,7,none⟩ (.slice ma9 ms.length mc9)).alloc (.cells #[.int .i64 mac,.int .i64 (i1 : Nat),.int .i64 (i2 : Nat),.int .i64 0,.int .i64 0,.slice xa2 co.length xc2,.slice ya2 hs9.length yc2] 42)).heap.size:=(by (have q1:=g8.size;rw [World.size_alloc];omega));obtain ⟨W3,hW3⟩ : ∃ W,W = (((((((((w2.setCell ⟨w.heap.size,0,none⟩ (.int .i64 mi)).setCell ⟨w.heap.size,1,none⟩ (.int .i64 ma)).setCell ⟨w.heap.size,2,none⟩ (.slice pa9 l2.length pc9)).setCell ⟨w.heap.size,3,none⟩ (.int .i64 ac)).setCell ⟨w.heap.size,4,none⟩ (.int .i64 th)).setCell ⟨w.heap.size,5,none⟩ (.int .i64 su)).setCell ⟨w.heap.size,6,none⟩ (.slice fa9 fs.length fc9)).setCell ⟨w.heap.size,7,none⟩ (.slice ma9 ms.length mc9)).alloc (.cells #[.int .i64 mac,.int .i64 (i1 : Nat),.int .i64 (i2 : Nat),.int .i64 0,.int .i64 0,.slice xa2 co.length xc2,.slice ya2 hs9.length yc2] 42)):=⟨_,rfl⟩;have hsz3 : w2.heap.size + 1 = W3.heap.size:=(by rw [hW3];simp only [World.size_setCell,World.size_alloc]);rw [← hW3] at bC bR oC oM B3 hz3 ⊢;rw [hsz3];obtain ⟨pvx,fvx,mvx,hvs,o1,⟨rs,hrs,o3⟩,o2⟩:=oC;dsimp only at hrs o1 o2 o3 hvs;have hvs2 : pvx = .slice pa9 l2.length pc9 ∧ fvx = .slice fa9 fs.length fc9 ∧ mvx = .slice ma9 ms.length mc9:=(by (simp at hvs;exact ⟨hvs.1.symm,hvs.2.1.symm,hvs.2.2.symm⟩));obtain ⟨rfl,rfl,rfl⟩:=hvs2;clear c0 c1 c2 c3 c4 c5 c6 c7 r0 r1 r2 r3 r4 r5 r6 r7 fc0 fc1 fc2 fc3 fc4 fc5 fc6 fc7 fr0 fr1 fr2 fr3 fr4 fr5 fr6 fr7 hW3 g8 hvs hal;refine wpList_append_own_at _ rfl (.tmp 27) (.tmp 29) 24 rfl W1.heap.size 42 i0 _ 7 88 Tryz.underlying24 hi hz0 hz1 hz2i rfl (by decide) _ _ _ rfl (o3.alloc _) ⟨W3.heap.size,0,none⟩ 1 1 (mL ⟨mac,(i1 : Nat),(i2 : Nat),0,0,co,hs9⟩ (.slice xa2 co.length xc2) (.slice ya2 hs9.length yc2)) rfl rfl (news_m W3 ⟨mac,(i1 : Nat),(i2 : Nat),0,0,co,hs9⟩ _ _) (ones_m ⟨mac,(i1 : Nat),(i2 : Nat),0,0,co,hs9⟩ rfl rfl) (by (have:=HMs.out;unfold maxLen;omega)) (by (have:=HMs.out;omega)) (by simp only [World.size_alloc];omega) ?_;intro v4 W4 ho4 hg4 _ hk4;have ba : Below W3.heap.size W3 (W3.alloc (.cells #[.int .i64 mac,.int .i64 (i1 : Nat),.int .i64 (i2 : Nat),.int .i64 0,.int .i64 0,.slice xa2 co.length xc2,.slice ya2 hs9.length yc2] 42)):=(Below.refl _ _).alloc (Nat.le_refl _) _;have hrs:=hrs.mono fun _ _ k=>k.below ba (Nat.le_refl _);have oM:=oM.below ba (Nat.le_refl _);have hge : ∀ k,(Value.slice fa9 fs.length fc9).ownBlock = some k → W1.heap.size ≤ k:=Kit.own_base o3;have bC:=(BX.al bC _).grown hg4 (fun e=>by (have:=hge _ e;omega));have bR:=(BX.al bR _).grown hg4 (fun e=>by (have:=hge _ e;omega));have o1:=owns_apart (World.ownsRow.alloc o1 _) (o3.alloc _) (by decide) hg4;have o2:=OMs.aside (o2.below ba (Nat.le_refl _)) (o3.alloc _) (fun k hk e9=>HAp.out k e9 hk) hg4;have o4:=OMs.push hrs (o3.alloc _) oM hg4 ho4;have B4:=(B3.alloc B3.size _).grown hg4 (by (have:=B3.size;rw [World.size_alloc];omega)) (fun k hk=>by (have:=hge k hk;omega));have hz4 : W1.heap.size ≤ W4.heap.size:=(by (have q9:=hg4.size;rw [World.size_alloc] at q9;omega));have HB4:=hid B4;have BC4:=hid bC;have BR4:=hid bR;have c0:=bC.cell 0;have fc0:=bC.frozen 0;have c1:=bC.cell 1;have fc1:=bC.frozen 1;have c2:=bC.cell 2;have fc2:=bC.frozen 2;have c3:=bC.cell 3;have fc3:=bC.frozen 3;have c4:=bC.cell 4;have fc4:=bC.frozen 4;have c5:=bC.cell 5;have fc5:=bC.frozen 5;have c6:=bC.cell 6;have fc6:=bC.frozen 6;have c7:=bC.cell 7;have fc7:=bC.frozen 7;simp at c0 c1 c2 c3 c4 c5 c6 c7;obtain ⟨ma4,mc4,rfl⟩:=OMs.form o4;have e7 : (fs ++ [(⟨mac,(i1 : Nat),(i2 : Nat),0,0,co,hs9⟩ : Cf.Mb)]).length = fs.length + 1:=(by simp);rw [e7] at o4;have HO4:=hid (And.intro o1 (And.intro o2 o4));clear o1 o2 o3 o4 hrs oM bC bR B3 B4 ba hge ho4 hg4 hk4 B2a))|(go_at_call 35;go_loud (have g5:=L3.set_grown W4 w.heap.size 6 (.slice ma4 (fs.length + 1) mc4);have o1:=Kit.owns_grown HO4.out.1 g5 (by omega);have o2:=HO4.out.2.1.grown g5 (by omega);have o4:=HO4.out.2.2.grown g5 (by omega);have bR:=BR4.out.grown g5 (fun e=>by (have:=Option.some.inj e;omega));have B5:=nwB HB4.out g5 ⟨Nat.le_refl _,HB4.out.size⟩;have oC5z : W1.heap.size ≤ (W4.setCell ⟨w.heap.size,6,none⟩ (.slice ma4 (fs.length + 1) mc4)).heap.size:=(by rw [World.size_setCell];exact hz4);obtain ⟨W5,hW5⟩ : ∃ W,W = (W4.setCell ⟨w.heap.size,6,none⟩ (.slice ma4 (fs.length + 1) mc4)):=⟨_,rfl⟩;rw [← hW5] at o1 o2 o4 bR B5 oC5z ⊢;have oC : OCl W5 W1.heap.size #[.int .i64 mi,.int .i64 ma,.slice pa9 l2.length pc9,.int .i64 ac,.int .i64 th,.int .i64 su,.slice ma4 (fs.length + 1) mc4,.slice ma9 ms.length mc9] ⟨mi,ma,l2,ac,th,su,fs ++ [⟨mac,(i1 : Nat),(i2 : Nat),0,0,co,hs9⟩],ms⟩:=⟨_,_,_,rfl,o1,o4,o2⟩;have hcl:=oC.reads ⟨by (have:=HPz.out.1;show l2.length ≤ _;omega),by (have:=HMs.out;show (fs ++ [_]).length ≤ _;rw [List.length_append];show fs.length + 1 ≤ _;omega),by (have q9 : ms.length * 88 ≤ 140737488355328:=HSz.out.2.2.1;show ms.length ≤ _;omega)⟩;have hck : Ck W5 ⟨mi,ma,l2,ac,th,su,fs ++ [⟨mac,(i1 : Nat),(i2 : Nat),0,0,co,hs9⟩],ms⟩:=⟨(HK.out.below B5).t1,(HK.out.below B5).t3,HPz.out.1,HPz.out.2⟩;refine (checked_any _ _ W5 hck hcl).mono ?_;rintro e w6 ⟨h6|⟨er,hz,hR,rfl⟩,hb6⟩;all_goals (try (obtain ⟨hR,rfl⟩:=h6));all_goals (have HR6:=hid hR;have HC6:=hid (oC.below hb6 (Nat.le_refl _));have B6:=belows B5 hb6 B5.size;have hz6 : W1.heap.size ≤ w6.heap.size:=(by (have:=hb6.size;have:=oC5z;omega));have HB6:=hid B6;have bR6:=bR.below hb6 bR.sz;have r0:=bR6.cell 0;have fr0:=bR6.frozen 0;have r1:=bR6.cell 1;have fr1:=bR6.frozen 1;have r2:=bR6.cell 2;have fr2:=bR6.frozen 2;have r3:=bR6.cell 3;have fr3:=bR6.frozen 3;have r4:=bR6.cell 4;have fr4:=bR6.frozen 4;have r5:=bR6.cell 5;have fr5:=bR6.frozen 5;have r6:=bR6.cell 6;have fr6:=bR6.frozen 6;have r7:=bR6.cell 7;have fr7:=bR6.frozen 7;simp at r0 r1 r2 r3 r4 r5 r6 r7;clear bR6 bR B5 B6 hcl hck o1 o2 o4 oC hW5 g5 hb6 hR;(try (have HZ:=hid hz;clear hz;unfold K0V))))))
 ·have B2 : Below w.heap.size w w2:=belows HB1.out HB2.out HB1.out.size
  exact bodyPost_ret (v:=.tuple #[.agg #[.int .i64 0,.int .i64 0,.slice none 0 0,.int .i64 0,.int .i64 0,.int .i64 0,.slice none 0 0,.slice none 0 0],.int .i64 e2]) (by simp [results,Tryz.results26,go_sem,r0,r1,r2,r3,r4,r5,r6,r7,World.cell?_alloc_past,hzr2]) rfl (by unfold WtPost K0V;exact ⟨l1,i1,e1,l2,i2,e2,HS1.out,HS2.out,.inl ⟨HZ.out,rfl⟩,BLw⟩)
 ·have g8:=grown8 w6 (w.heap.size + 1) (.int .i64 mi) (.int .i64 ma) (.slice pa9 l2.length pc9) (.int .i64 ac) (.int .i64 th) (.int .i64 su) (.slice ma4 (fs.length + 1) mc4) (.slice ma9 ms.length mc9)
  have oC:=(HC6.out.grown g8 (by omega)).mono (base':=w.heap.size) (by omega)
  have B6:=HB6.out
  exact bodyPost_ret (v:=.tuple #[.agg #[.int .i64 mi,.int .i64 ma,.slice pa9 l2.length pc9,.int .i64 ac,.int .i64 th,.int .i64 su,.slice ma4 (fs.length + 1) mc4,.slice ma9 ms.length mc9],.int .i64 0]) (by simp [results,Tryz.results26,go_sem,r0,r1,r2,r3,r4,r5,r6,r7]) rfl (by unfold WtPost;exact ⟨l1,i1,e1,l2,i2,0,HS1.out,HS2.out,.inr ⟨rfl,.inl ⟨HR6.out,_,rfl,oC,HPz.out⟩⟩,BLw⟩)
 ·have B6:=HB6.out
  exact bodyPost_ret (v:=.tuple #[.agg #[.int .i64 0,.int .i64 0,.slice none 0 0,.int .i64 0,.int .i64 0,.int .i64 0,.slice none 0 0,.slice none 0 0],.int .i64 er]) (by simp [results,Tryz.results26,go_sem,r0,r1,r2,r3,r4,r5,r6,r7]) rfl (by unfold WtPost K0V;exact ⟨l1,i1,e1,l2,i2,0,HS1.out,HS2.out,.inr ⟨rfl,.inr ⟨er,HZ.out,HR6.out,rfl⟩⟩,BLw⟩)
theorem withField_any (c : Cf.Cl) (vs : Array Value) (mac : Int) (a b : ByteArray) (w : World) (hk : Ck w c) (h : ClR w vs c) (hs : Cf.Szc c) (hz : PoolSz c.pool) (ha : a.size ≤ 140737488355328) (hb : b.size ≤ 140737488355328) (hms : (c.fs.length + 1) * 88 ≤ 140737488355328) :
  Calls Tryz.prog 26 #[.agg vs,.int .i64 mac,.string a,.string b] w (WtPost (mkF c) c ⟨mac,0,0,0,0,[],[]⟩ a b w):=withField_at c vs mac [] [] a b w hk h hs hz rfl rfl ha hb hms
end Go.Proofs.YtnojgiflgmnjlaaGreatDoor
namespace Go.Proofs.YtnojgiflgmnjlaaGreatDoor
open Go Go.RowKit
theorem zero_own {w w' : World} (hb : Below w.heap.size w w') (e : Ending) : OwP w e #[.int .i64 0,.int .i64 0,.slice none 0 0,.int .i64 0,.int .i64 0,.int .i64 0,.slice none 0 0,.slice none 0 0] w' :=
 ⟨{ mi:=0,ma:=0,pool:=[],ac:=0,th:=0,su:=0,fs:=[],ms:=[] },⟨_,_,_,rfl,L3.nilC _ _,OMs.nil _ _,OMs.nil _ _⟩,hb,by simp,by simp,by simp⟩
theorem own_full (c : Cf.Cl) (vs : Array Value) (w : World) (t1 : L1.Tabs w) (t3 : L3.Tabs w) (h : ClR w vs c) (hz : PoolSz c.pool) (hs : Cf.Szc c) (hf : (c.fs.length + 1) * 88 ≤ 140737488355328) (hi : ∀ x ∈ c.pool,x.s.size ≤ 140737488355328 ∧ L3.I6 x.n) :
  Calls Tryz.prog 10 #[.agg vs] w fun e w'=>e = .returned (.bool true) ∧ Below w.heap.size w w':=by
 refine own_law c vs w h (fun er zs=>∃ e0,EnR c e0 er zs) (fun a l a' l' ⟨_,k⟩ ⟨_,k'⟩=>⟨(k.det k').2.1,(k.det k').2.2⟩) (fun W k=>begun_any W (t1.below k t1.size) (t3.below k t3.size))
  (fun W k=>(rencode_any c vs W (h.below k (Nat.le_refl _)) hi).mono fun e w' hp=>?_) (fun W k=>(clone_any c vs W (h.below k (Nat.le_refl _)) hs).mono fun e w' hp=>?_)
  (fun W k=>(withField_any c vs 0 ⟨#[122,122]⟩ ⟨#[73]⟩ W ⟨t1.below k t1.size,t3.below k t3.size,hz.1,hz.2⟩ (h.below k (Nat.le_refl _)) hs hz (by decide) (by decide) hf).mono fun e w' hp=>?_)
 ·obtain ⟨e0,er,zs,v,h1,h2,h3,h4,h5⟩:=hp.form
  exact ⟨er,zs,v,h1,⟨e0,h2⟩,h3,h4,h5⟩
 ·obtain ⟨vs',h1,h2,-,h4⟩:=hp
  obtain ⟨s1,s2,s3,-⟩:=hs
  exact ⟨vs',h1,c,h2,h4,by omega,by omega,by omega⟩
 ·obtain ⟨l1,i1,e1,l2,i2,e2,-,-,hq,hb⟩:=hp
  rcases hq with ⟨-,he⟩|⟨-,⟨-,vs',he,ho,hl⟩|⟨er,-,-,he⟩⟩
  ·exact ⟨_,_,he,zero_own hb _⟩
  ·obtain ⟨s1,s2,s3,-⟩:=hs
   refine ⟨vs',_,he,_,ho,hb,?_,?_,?_⟩
   ·have:=hl.1
    show l2.length ≤ _
    omega
   ·show (c.fs ++ [_]).length ≤ _
    rw [List.length_append,List.length_singleton]
    omega
   ·show c.ms.length ≤ _
    omega
  ·exact ⟨_,_,he,zero_own hb _⟩
end Go.Proofs.YtnojgiflgmnjlaaGreatDoor
namespace Go.Proofs.YtnojgiflgmnjlaaGreatDoor
open Go.ChangeShapes Go.WideShapes Go.ChangeAt Go.RowKit Go.WideMaps Go.WideElems
theorem i6_wf {z : Int} (h : (Lit.int .i64 z).wf = true) : L3.I6 z:=by
 simp [Lit.wf,IntKind.min,IntKind.max,IntKind.signed,IntKind.bits] at h
 unfold L3.I6
 omega
section
variable {H : Type} {enc : TypeId × Value → H}
theorem weights_allT {P : Program} {e : TypeId} : ∀ {ds : List (DataW H)} {d : DataW H},d ∈ ds → (DataW.weightsAll P e ds).all (·≤ reachBytes) = true → (d.weights P e).all (·≤ reachBytes) = true
 | [],_,h,_=>by cases h
 | x :: r,d,h,hw=>by
  simp only [DataW.weightsAll,List.all_append,Bool.and_eq_true] at hw
  rcases List.mem_cons.1 h with rfl|h
  ·exact hw.1
  ·exact weights_allT h hw.2
theorem bulk_pos (d : DataW H) : 1 ≤ Rows.uptoBulk d:=by
 cases d with
 | lit l=>cases l <;> simp [Rows.uptoBulk]
 | _=>simp [Rows.uptoBulk]
theorem bulk_len : ∀ l : List (DataW H),l.length ≤ Rows.uptoBulkAll l
 | []=>by simp [Rows.uptoBulkAll]
 | x :: r=>by have h1:=bulk_pos x;have h2:=bulk_len r;simp only [Rows.uptoBulkAll,List.length_cons];omega
theorem bulk_mem : ∀ {l : List (DataW H)} {d : DataW H},d ∈ l → Rows.uptoBulk d ≤ Rows.uptoBulkAll l
 | [],_,h=>by cases h
 | x :: r,d,h=>by
  simp only [Rows.uptoBulkAll]
  rcases List.mem_cons.1 h with rfl|h
  ·omega
  ·have:=bulk_mem h;omega
theorem A.cellsInt : Tryz.prog.cellsOf 3 = 1:=by kernel_rfl
theorem A.cellsI64 : Tryz.prog.cellsOf 2 = 1:=by kernel_rfl
theorem A.cellsStr : Tryz.prog.cellsOf 9 = 1:=by kernel_rfl
theorem A.cellsU8 : Tryz.prog.cellsOf 5 = 1:=by kernel_rfl
theorem A.bytesU8 : Tryz.prog.bytesOf 5 = 1:=by kernel_rfl
theorem bs_cell {W : World} {n : Nat} {k : Value} {y : DataW H × List MemPlace} (h : DataW.trod enc Tryz.prog W 0 (fun _=>true) true n 22 [k] = some y) (hw : (y.1.weights Tryz.prog 22).all (·≤ reachBytes) = true) :
  ∃ bs : List UInt8,L3.Bs W.heap.size W k bs ∧ bs.length ≤ 140737488351232 ∧ bs.length ≤ Rows.uptoBulk y.1:=by
 rcases open_ints Tryz.underlying22 Tryz.underlying5 A.cellsU8 h with ⟨hcs,rfl⟩|⟨a,len,cap,zs,hcs,_,hl,hm,hz,rfl,hcell,hwz⟩
 ·obtain rfl : k = .slice none 0 0:=by simpa using hcs
  exact ⟨[],⟨by simp,.inl ⟨rfl,none,0,rfl⟩⟩,by simp,by simp⟩
 ·obtain rfl : k = .slice (some a) len cap:=by simpa using hcs
  simp only [if_true] at hz
  simp only [DataW.weights,Tryz.underlying22,List.all_cons,Bool.and_eq_true,decide_eq_true_eq,A.bytesU8,Nat.mul_one] at hw
  have hcap : cap ≤ 140737488351232:=by
   have:=hw.1
   simp [lits,reachBytes] at this
   omega
  have hbl : len ≤ Rows.uptoBulk (.slice (lits .u8 (zs.take len)) (lits .u8 (zs.drop len)) : DataW H):=by
   have:=bulk_len (lits (H:=H) .u8 (zs.take len))
   simp only [Rows.uptoBulk]
   simp [lits] at this ⊢
   omega
  refine ⟨(zs.take len).map fun z=>UInt8.ofNat z.toNat,⟨by simp;omega,?_⟩,by simp;omega,by simp only [List.length_map,List.length_take];omega⟩
  have hlen : ((zs.take len).map fun z=>UInt8.ofNat z.toNat).length = len:=by simp;omega
  by_cases h0 : len = 0
  ·exact .inl ⟨by rw [h0];rfl,some a,cap,by rw [h0]⟩
  ·obtain ⟨b,off,rfl,hc⟩:=ints_at hcell (by omega)
   refine .inr ⟨b,off,cap,by rw [hlen],by rw [hlen];exact hl,?_,fun i c hi=>?_⟩
   ·exact World.block_lt_of_cell? W _ (hc 0 (by omega))
   ·have hil : i < len:=by
     rw [List.getElem?_eq_some_iff] at hi
     have:=hi.1
     omega
    rw [show W.cell? ⟨b,off + i,none⟩ = _ from hc i (by omega)]
    have hzi : zs[i]? = some (zs.getD i 0):=by simp [show i < zs.length by omega]
    have h1:=bounds_u8 (hwz _ (List.mem_of_getElem? hzi))
    rw [List.getElem?_map,List.getElem?_take_of_lt hil,hzi] at hi
    simp only [Option.map_some,Option.some.injEq] at hi
    subst hi
    unfold L3.bv
    rw [UInt8.toNat_ofNat']
    congr 3
    omega
theorem list_cell {α : Type} {W : World} {n : Nat} {k : Value} {y : DataW H × List MemPlace} {tS tE : TypeId} {s by_ : Nat} (G : DataW H → List Value → α → Prop) (hG : ∀ d cs x,G d cs x → cs.length = s) (hs : 0 < s)
  (hu : Tryz.prog.underlying tS = some (.slice tE)) (hco : Tryz.prog.cellsOf tE = s) (hby : Tryz.prog.bytesOf tE = by_) (hb0 : 0 < by_)
  (he : ∀ (m : Nat) (cs : List Value) (z : DataW H × List MemPlace),DataW.trod enc Tryz.prog W 0 (fun _=>true) true m tE cs = some z → (z.1.weights Tryz.prog tE).all (·≤ reachBytes) = true → ∃ x,G z.1 cs x)
  (h : DataW.trod enc Tryz.prog W 0 (fun _=>true) true n tS [k] = some y) (hw : (y.1.weights Tryz.prog tS).all (·≤ reachBytes) = true) :
  ∃ (xs : List α) (rs : List (List Value)),rs.length = xs.length ∧ (∀ (i : Nat) (r : List Value) (x : α),rs[i]? = some r → xs[i]? = some x → ∃ d,G d r x ∧ Rows.uptoBulk d ≤ Rows.uptoBulk y.1) ∧ Kit.IsS s W k xs.length rs.flatten ∧ xs.length * by_ ≤ 140737488351232 ∧ xs.length ≤ Rows.uptoBulk y.1:=by
 rcases DataW.trod_slice hu h with ⟨hcs,rfl⟩|⟨a,len,cap,elems,rest,m,-,hcs,rfl,-,hl,hm,hel,hcells,hsp,-⟩
 ·obtain rfl : k = .slice none 0 0:=by simpa using hcs
  exact ⟨[],[],rfl,fun i r x hr=>by simp at hr,⟨by simp,by simp,.inl ⟨rfl,none,0,rfl⟩⟩,by simp,by simp⟩
 ·obtain rfl : k = .slice (some a) len cap:=by simpa using hcs
  simp only [DataW.weights,hu,List.all_cons,List.all_append,Bool.and_eq_true,decide_eq_true_eq,hby] at hw
  have hcap : len * by_ ≤ 140737488351232:=by
   have h1:=hw.1
   simp only [List.length_map,reachBytes] at h1
   rw [hel] at h1
   exact Nat.le_trans (Nat.mul_le_mul_right _ (Nat.le_add_right _ _)) h1
  have hbl : len ≤ Rows.uptoBulk (.slice (elems.map (·.1)) (rest.map (·.1)) : DataW H):=by
   have:=bulk_len (elems.map (·.1))
   rw [List.length_map,hel] at this
   simp only [Rows.uptoBulk]
   omega
  have each : ∀ i,∃ q : List Value × Option α,i < len → q.1.length = s ∧ (∀ j,j < s → W.cell? ((a.add (i * s)).add j) = q.1[j]?) ∧ ∃ x d,q.2 = some x ∧ G d q.1 x ∧ Rows.uptoBulk d ≤ Rows.uptoBulk (.slice (elems.map (·.1)) (rest.map (·.1)) : DataW H):=by
   intro i
   by_cases hi : i < len
   ·have h1:=hcells i hi
    rw [hco,List.getElem?_eq_getElem (by omega),Option.bind_eq_some_iff] at h1
    obtain ⟨cs,hcs',htr⟩:=h1
    have hmem : elems[i].1 ∈ elems.map (·.1):=List.mem_map_of_mem (List.getElem_mem _)
    obtain ⟨x,hx⟩:=he _ _ _ htr (weights_allT hmem hw.2.1)
    refine ⟨(cs,some x),fun _=>⟨hG _ _ _ hx,fun j hj=>(World.cells?_some hcs').2.2 j hj,x,_,rfl,hx,?_⟩⟩
    have:=bulk_mem hmem
    simp only [Rows.uptoBulk]
    omega
   ·exact ⟨([],none),fun h=>absurd h hi⟩
  obtain ⟨f,hfx⟩:=Classical.skolem.1 each
  have hxs : ∃ xs : List α,xs.length = len ∧ ∀ i,i < len → xs[i]? = (f i).2:=by
   have : ∀ m,m ≤ len → ∃ xs : List α,xs.length = m ∧ ∀ i,i < m → xs[i]? = (f i).2:=by
    intro m
    induction m with
    | zero=>intro _;exact ⟨[],rfl,fun i hi=>by omega⟩
    | succ m ih =>
     intro hm
     obtain ⟨xs,h1,h2⟩:=ih (by omega)
     obtain ⟨-,-,x,d,hx,-⟩:=hfx m (by omega)
     refine ⟨xs ++ [x],by simp [h1],fun i hi=>?_⟩
     by_cases e : i < m
     ·rw [List.getElem?_append_left (by omega)];exact h2 i e
     ·obtain rfl : i = m:=by omega
      rw [List.getElem?_append_right (by omega),h1,Nat.sub_self,hx]
      rfl
   exact this len (Nat.le_refl _)
  obtain ⟨xs,hxl,hxe⟩:=hxs
  have hrl : ∀ r ∈ (List.range len).map (fun i=>(f i).1),r.length = s:=by
   intro r hr
   obtain ⟨i,hi,rfl⟩:=List.mem_map.1 hr
   exact (hfx i (List.mem_range.1 hi)).1
  have hfl : ∀ (rs : List (List Value)),(∀ r ∈ rs,r.length = s) → rs.flatten.length = rs.length * s ∧ ∀ i r,rs[i]? = some r → ∀ j,j < s → rs.flatten[i * s + j]? = r[j]?:=by
   intro rs
   induction rs with
   | nil=>intro _;exact ⟨by simp,fun i r hr=>by simp at hr⟩
   | cons r0 rs ih =>
    intro hr
    obtain ⟨h1,h2⟩:=ih (fun r h=>hr r (List.mem_cons_of_mem _ h))
    have h0:=hr r0 (by simp)
    refine ⟨by rw [List.flatten_cons,List.length_append,h0,h1,List.length_cons,Nat.succ_mul];omega,fun i r hi j hj=>?_⟩
    match i,hi with
    | 0,hi =>
     simp at hi
     subst hi
     rw [List.flatten_cons,List.getElem?_append_left (by omega)]
     simp
    | i + 1,hi =>
     rw [List.flatten_cons,List.getElem?_append_right (by rw [h0,Nat.succ_mul];omega),h0,← h2 i r (by simpa using hi) j hj]
     congr 1
     rw [Nat.succ_mul]
     omega
  obtain ⟨hfl1,hfl2⟩:=hfl _ hrl
  have hrlen : ((List.range len).map (fun i=>(f i).1)).length = len:=by simp
  refine ⟨xs,(List.range len).map (fun i=>(f i).1),by rw [hrlen,hxl],fun i r x hr hx=>?_,⟨by rw [hfl1,hrlen,hxl],by rw [hxl];exact Nat.le_trans (Nat.le_trans (Nat.le_mul_of_pos_right _ hb0) hcap) (by decide),?_⟩,by rw [hxl];exact hcap,by rw [hxl];exact hbl⟩
  ·have hi : i < len:=by
    have:=(List.getElem?_eq_some_iff.1 hx).1
    omega
   obtain ⟨-,-,x',d,hx',hg,hb⟩:=hfx i hi
   rw [hxe i hi,hx'] at hx
   cases hx
   rw [List.getElem?_map,List.getElem?_range hi] at hr
   simp only [Option.map_some,Option.some.injEq] at hr
   subst hr
   exact ⟨d,hg,hb⟩
  ·by_cases h0 : len = 0
   ·exact .inl ⟨by rw [hxl,h0],some a,cap,by rw [h0]⟩
   ·obtain ⟨b,o,spot⟩:=a
    have hsp0 : ∃ u,W.cell? (((⟨b,o,spot⟩ : Addr).add (0 * s)).add 0) = some u:=by
     obtain ⟨h1,h2,-⟩:=hfx 0 (by omega)
     refine ⟨(f 0).1[0]'(by omega),?_⟩
     rw [h2 0 hs,List.getElem?_eq_getElem]
    obtain ⟨u0,hsp0⟩:=hsp0
    have hspot : spot = none:=by
     have:=World.cell?_spot hsp0
     simpa [Addr.add] using this
    subst hspot
    have hat : ∀ i j,((⟨b,o,none⟩ : Addr).add i).add j = ⟨b,o + (i + j),none⟩:=by
     intro i j
     rw [add_plain,add_plain];congr 1;omega
    refine .inr ⟨b,o,cap,by rw [hxl],by rw [hxl];exact hl,?_,fun i u hi=>?_⟩
    ·have:=World.block_lt_of_cell? W _ hsp0
     simpa [Addr.add] using this
    ·have hil : i < len * s:=by
      have:=(List.getElem?_eq_some_iff.1 hi).1
      rw [hfl1,hrlen] at this
      exact this
     have hq : i / s < len:=Nat.div_lt_of_lt_mul (by rw [Nat.mul_comm];exact hil)
     have hr : i % s < s:=Nat.mod_lt _ hs
     have e : i / s * s + i % s = i:=by rw [Nat.mul_comm];exact Nat.div_add_mod i s
     have hget : ((List.range len).map (fun i=>(f i).1))[i / s]? = some (f (i / s)).1:=by rw [List.getElem?_map,List.getElem?_range hq];rfl
     have h1:=hfl2 (i / s) _ hget (i % s) hr
     rw [e] at h1
     have h2:=(hfx (i / s) hq).2.1 (i % s) hr
     rw [hat,e] at h2
     rw [h2,← h1]
     exact hi
end
end Go.Proofs.YtnojgiflgmnjlaaGreatDoor
namespace Go.Proofs.YtnojgiflgmnjlaaGreatDoor
open Go.ChangeShapes Go.WideShapes Go.ChangeAt Go.RowKit Go.WideMaps Go.WideElems
set_option maxRecDepth 100000
section
variable {H : Type} {enc : TypeId × Value → H}
theorem rs_map {α : Type} {f : α → List Value} {xs : List α} {rs : List (List Value)} (hl : rs.length = xs.length) (h : ∀ (i : Nat) (r : List Value) (x : α),rs[i]? = some r → xs[i]? = some x → r = f x) : rs.flatten = xs.flatMap f:=by
 have e : rs = xs.map f:=by
  apply List.ext_getElem?
  intro i
  rw [List.getElem?_map]
  by_cases hi : i < xs.length
  ·have h1 : rs[i]? = some rs[i]:=List.getElem?_eq_getElem (by omega)
   have h2 : xs[i]? = some xs[i]:=List.getElem?_eq_getElem hi
   rw [h1,h2,h i _ _ h1 h2]
   rfl
  ·rw [List.getElem?_eq_none (by omega),List.getElem?_eq_none (by omega)]
   rfl
 rw [e,List.flatMap_def]
theorem hn_cells {W : World} {n : Nat} {cs : List Value} {y : DataW H × List MemPlace} (h : DataW.trod enc Tryz.prog W 0 (fun _=>true) true n 58 cs = some y) : ∃ x : Cf.Hn,cs = hL x:=by
 obtain ⟨xs,m,-,hy,hl,hlen,hf⟩:=DataW.trod_struct Tryz.underlying58 h
 have hl4 : cs.length = 4:=hl.trans (by kernel_rfl)
 have hx4 : xs.length = 4:=hlen
 match xs,hx4 with
 | [x0,x1,x2,x3],_ =>
 match cs,hl4 with
 | [k0,k1,k2,k3],_ =>
 obtain ⟨a,e0,-,-⟩:=DataW.trod_int Tryz.underlying3 (hf 0 _ rfl)
 obtain ⟨b,e1,-,-⟩:=DataW.trod_int Tryz.underlying3 (hf 1 _ rfl)
 obtain ⟨c,e2,-,-⟩:=DataW.trod_int Tryz.underlying3 (hf 2 _ rfl)
 obtain ⟨d,e3,-,-⟩:=DataW.trod_int Tryz.underlying3 (hf 3 _ rfl)
 have q0 : ([k0,k1,k2,k3].drop 0).take (Tryz.prog.cellsOf 3) = [.int .i64 a]:=e0
 have q1 : ([k0,k1,k2,k3].drop 1).take (Tryz.prog.cellsOf 3) = [.int .i64 b]:=e1
 have q2 : ([k0,k1,k2,k3].drop 2).take (Tryz.prog.cellsOf 3) = [.int .i64 c]:=e2
 have q3 : ([k0,k1,k2,k3].drop 3).take (Tryz.prog.cellsOf 3) = [.int .i64 d]:=e3
 rw [A.cellsInt] at q0 q1 q2 q3
 simp only [List.drop_zero,List.take_succ_cons,List.take_zero,List.cons.injEq,and_true,List.drop_succ_cons] at q0 q1 q2 q3
 subst q0 q1 q2 q3
 exact ⟨⟨a,b,c,d⟩,rfl⟩
theorem hs_cell {W : World} {n : Nat} {k : Value} {y : DataW H × List MemPlace} (h : DataW.trod enc Tryz.prog W 0 (fun _=>true) true n 40 [k] = some y) (hw : (y.1.weights Tryz.prog 40).all (·≤ reachBytes) = true) :
  ∃ hs : List Cf.Hn,Kit.IsS 4 W k hs.length (hs.flatMap hL) ∧ hs.length * 32 ≤ 140737488351232 ∧ hs.length ≤ Rows.uptoBulk y.1:=by
 obtain ⟨xs,rs,h1,h2,h3,h4,h5⟩:=list_cell (s:=4) (by_:=32) (tE:=58) (fun (_ : DataW H) cs (x : Cf.Hn)=>cs = hL x) (fun _ _ x h=>by rw [h];rfl) (by decide) Tryz.underlying40 (by kernel_rfl) (by kernel_rfl) (by decide) (fun m cs z hz _=>hn_cells hz) h hw
 refine ⟨xs,?_,h4,h5⟩
 rw [← rs_map h1 (fun i r x hr hx=>by obtain ⟨d,hd,-⟩:=h2 i r x hr hx;exact hd)]
 exact h3
theorem A.cellsBs : Tryz.prog.cellsOf 22 = 1:=by kernel_rfl
theorem A.cellsHs : Tryz.prog.cellsOf 40 = 1:=by kernel_rfl
structure GoodM (m : Cf.Mb) (B : Nat) : Prop where
 ac : L3.I6 m.ac
 hs : m.hs.length * 32 ≤ 140737488351232
 cb : m.code.length ≤ B
 hb : m.hs.length ≤ B
theorem mb_cells {W : World} {n : Nat} {cs : List Value} {y : DataW H × List MemPlace} (h : DataW.trod enc Tryz.prog W 0 (fun _=>true) true n 42 cs = some y) (hw : (y.1.weights Tryz.prog 42).all (·≤ reachBytes) = true) :
  ∃ m : Cf.Mb,MbR W cs m ∧ GoodM m (Rows.uptoBulk y.1):=by
 obtain ⟨xs,m,-,hy,hl,hlen,hf⟩:=DataW.trod_struct Tryz.underlying42 h
 have hl7 : cs.length = 7:=hl.trans (by kernel_rfl)
 have hx7 : xs.length = 7:=hlen
 match xs,hx7 with
 | [x0,x1,x2,x3,x4,x5,x6],_ =>
 match cs,hl7 with
 | [k0,k1,k2,k3,k4,k5,k6],_ =>
 obtain ⟨a,e0,g0,w0⟩:=DataW.trod_int Tryz.underlying3 (hf 0 _ rfl)
 obtain ⟨b,e1,g1,-⟩:=DataW.trod_int Tryz.underlying3 (hf 1 _ rfl)
 obtain ⟨c,e2,g2,-⟩:=DataW.trod_int Tryz.underlying3 (hf 2 _ rfl)
 obtain ⟨d,e3,g3,-⟩:=DataW.trod_int Tryz.underlying3 (hf 3 _ rfl)
 obtain ⟨e,e4,g4,-⟩:=DataW.trod_int Tryz.underlying3 (hf 4 _ rfl)
 have q0 : ([k0,k1,k2,k3,k4,k5,k6].drop 0).take (Tryz.prog.cellsOf 3) = [.int .i64 a]:=e0
 have q1 : ([k0,k1,k2,k3,k4,k5,k6].drop 1).take (Tryz.prog.cellsOf 3) = [.int .i64 b]:=e1
 have q2 : ([k0,k1,k2,k3,k4,k5,k6].drop 2).take (Tryz.prog.cellsOf 3) = [.int .i64 c]:=e2
 have q3 : ([k0,k1,k2,k3,k4,k5,k6].drop 3).take (Tryz.prog.cellsOf 3) = [.int .i64 d]:=e3
 have q4 : ([k0,k1,k2,k3,k4,k5,k6].drop 4).take (Tryz.prog.cellsOf 3) = [.int .i64 e]:=e4
 have f5 : DataW.trod enc Tryz.prog W 0 (fun _=>true) true m 22 (([k0,k1,k2,k3,k4,k5,k6].drop 5).take (Tryz.prog.cellsOf 22)) = some x5:=hf 5 _ rfl
 have f6 : DataW.trod enc Tryz.prog W 0 (fun _=>true) true m 40 (([k0,k1,k2,k3,k4,k5,k6].drop 6).take (Tryz.prog.cellsOf 40)) = some x6:=hf 6 _ rfl
 rw [A.cellsInt] at q0 q1 q2 q3 q4
 rw [A.cellsBs] at f5
 rw [A.cellsHs] at f6
 simp only [List.drop_zero,List.take_succ_cons,List.take_zero,List.cons.injEq,and_true,List.drop_succ_cons] at q0 q1 q2 q3 q4 f5 f6
 subst q0 q1 q2 q3 q4
 subst hy
 simp only [DataW.weights,Tryz.underlying42,List.map_cons,List.map_nil,DataW.weightsEach,List.all_append,Bool.and_eq_true] at hw
 obtain ⟨bs,hb1,hb2,hb3⟩:=bs_cell f5 (by simp_all)
 obtain ⟨hs,hh1,hh2,hh3⟩:=hs_cell f6 (by simp_all)
 refine ⟨⟨a,b,c,d,e,bs,hs⟩,⟨k5,k6,rfl,hb1,hh1,by show bs.length ≤ _;omega⟩,⟨i6_wf w0,hh2,?_,?_⟩⟩
 ·show bs.length ≤ _
  simp only [Rows.uptoBulk,Rows.uptoBulkAll,List.map_cons,List.map_nil]
  omega
 ·show hs.length ≤ _
  simp only [Rows.uptoBulk,Rows.uptoBulkAll,List.map_cons,List.map_nil]
  omega
theorem msC_of {W : World} : ∀ {rs : List (List Value)} {ms : List Cf.Mb},rs.length = ms.length → (∀ (i : Nat) (r : List Value) (m : Cf.Mb),rs[i]? = some r → ms[i]? = some m → MbR W r m) → MsC W rs ms
 | [],[],_,_=>trivial
 | r :: rs,m :: ms,hl,h=>⟨h 0 r m rfl rfl,msC_of (by simpa using hl) fun i x y hx hy=>h (i + 1) x y (by simpa using hx) (by simpa using hy)⟩
 | [],_ :: _,hl,_=>by simp at hl
 | _ :: _,[],hl,_=>by simp at hl
theorem ms_cell {W : World} {n : Nat} {k : Value} {y : DataW H × List MemPlace} (h : DataW.trod enc Tryz.prog W 0 (fun _=>true) true n 24 [k] = some y) (hw : (y.1.weights Tryz.prog 24).all (·≤ reachBytes) = true) :
  ∃ ms : List Cf.Mb,MsR W k ms ∧ (∀ m ∈ ms,GoodM m (Rows.uptoBulk y.1)) ∧ ms.length * 88 ≤ 140737488351232 ∧ ms.length ≤ Rows.uptoBulk y.1:=by
 obtain ⟨xs,rs,h1,h2,h3,h4,h5⟩:=list_cell (s:=7) (by_:=88) (tE:=42) (fun (d : DataW H) cs (m : Cf.Mb)=>MbR W cs m ∧ GoodM m (Rows.uptoBulk d)) (fun _ _ x h=>h.1.len) (by decide) Tryz.underlying24 (by kernel_rfl) (by kernel_rfl) (by decide) (fun m cs z hz hw=>mb_cells hz hw) h hw
 refine ⟨xs,⟨rs,msC_of h1 fun i r x hr hx=>?_,h3⟩,fun m hm=>?_,h4,h5⟩
 ·obtain ⟨d,hd,-⟩:=h2 i r x hr hx
  exact hd.1
 ·obtain ⟨i,hi⟩:=List.mem_iff_getElem?.1 hm
  have hlt : i < rs.length:=by rw [h1];exact (List.getElem?_eq_some_iff.1 hi).1
  obtain ⟨d,hd,hb⟩:=h2 i _ m (List.getElem?_eq_getElem hlt) hi
  exact ⟨hd.2.ac,hd.2.hs,Nat.le_trans hd.2.cb hb,Nat.le_trans hd.2.hb hb⟩
end
end Go.Proofs.YtnojgiflgmnjlaaGreatDoor
namespace Go.Proofs.YtnojgiflgmnjlaaGreatDoor
open Go.ChangeShapes Go.WideShapes Go.ChangeAt Go.RowKit Go.WideMaps Go.WideElems
set_option maxRecDepth 100000
section
variable {H : Type} {enc : TypeId × Value → H}
structure GoodC (c : L3.Cp.C) : Prop where
 s : c.s.size ≤ 140737488351232
 n : L3.I6 c.n
theorem c_cells {W : World} {n : Nat} {cs : List Value} {y : DataW H × List MemPlace} (h : DataW.trod enc Tryz.prog W 0 (fun _=>true) true n 56 cs = some y) (hw : (y.1.weights Tryz.prog 56).all (·≤ reachBytes) = true) :
  ∃ c : L3.Cp.C,cs = L3.cL c ∧ GoodC c:=by
 obtain ⟨xs,m,-,hy,hl,hlen,hf⟩:=DataW.trod_struct Tryz.underlying56 h
 have hl5 : cs.length = 5:=hl.trans (by kernel_rfl)
 have hx5 : xs.length = 5:=hlen
 match xs,hx5 with
 | [x0,x1,x2,x3,x4],_ =>
 match cs,hl5 with
 | [k0,k1,k2,k3,k4],_ =>
 obtain ⟨t,e0,g0,w0⟩:=DataW.trod_int Tryz.underlying3 (hf 0 _ rfl)
 obtain ⟨s,e1,g1,-⟩:=DataW.trod_string Tryz.underlying9 (hf 1 _ rfl)
 obtain ⟨nn,e2,g2,w2⟩:=DataW.trod_int Tryz.underlying2 (hf 2 _ rfl)
 obtain ⟨a,e3,g3,w3⟩:=DataW.trod_int Tryz.underlying3 (hf 3 _ rfl)
 obtain ⟨b,e4,g4,w4⟩:=DataW.trod_int Tryz.underlying3 (hf 4 _ rfl)
 have q0 : ([k0,k1,k2,k3,k4].drop 0).take (Tryz.prog.cellsOf 3) = [.int .i64 t]:=e0
 have q1 : ([k0,k1,k2,k3,k4].drop 1).take (Tryz.prog.cellsOf 9) = [.string s]:=e1
 have q2 : ([k0,k1,k2,k3,k4].drop 2).take (Tryz.prog.cellsOf 2) = [.int .i64 nn]:=e2
 have q3 : ([k0,k1,k2,k3,k4].drop 3).take (Tryz.prog.cellsOf 3) = [.int .i64 a]:=e3
 have q4 : ([k0,k1,k2,k3,k4].drop 4).take (Tryz.prog.cellsOf 3) = [.int .i64 b]:=e4
 clear e0 e1 e2 e3 e4 hf
 rw [A.cellsInt] at q0 q3 q4
 rw [A.cellsStr] at q1
 rw [A.cellsI64] at q2
 simp only [List.drop_zero,List.take_succ_cons,List.take_zero,List.cons.injEq,and_true,List.drop_succ_cons] at q0 q1 q2 q3 q4
 subst q0 q1 q2 q3 q4
 subst g0 g1 g2 g3 g4 hy
 refine ⟨⟨t,s,nn,a,b⟩,rfl,?_,i6_wf w2⟩
 simp [DataW.weights,Tryz.underlying56,DataW.weightsEach,reachBytes] at hw
 exact of_decide_eq_true hw
theorem cs_cell {W : World} {n : Nat} {k : Value} {y : DataW H × List MemPlace} (h : DataW.trod enc Tryz.prog W 0 (fun _=>true) true n 23 [k] = some y) (hw : (y.1.weights Tryz.prog 23).all (·≤ reachBytes) = true) :
  ∃ l : List L3.Cp.C,Kit.IsS 5 W k l.length (l.flatMap L3.cL) ∧ (∀ c ∈ l,GoodC c) ∧ l.length * 48 ≤ 140737488351232 ∧ l.length ≤ Rows.uptoBulk y.1:=by
 obtain ⟨xs,rs,h1,h2,h3,h4,h5⟩:=list_cell (s:=5) (by_:=48) (tE:=56) (fun (_ : DataW H) cs (x : L3.Cp.C)=>cs = L3.cL x ∧ GoodC x) (fun _ _ x h=>by rw [h.1];rfl) (by decide) Tryz.underlying23 (by kernel_rfl) (by kernel_rfl) (by decide) (fun m cs z hz hw=>c_cells hz hw) h hw
 refine ⟨xs,?_,fun c hc=>?_,h4,h5⟩
 ·rw [← rs_map h1 (fun i r x hr hx=>by obtain ⟨d,hd,-⟩:=h2 i r x hr hx;exact hd.1)]
  exact h3
 ·obtain ⟨i,hi⟩:=List.mem_iff_getElem?.1 hc
  have hlt : i < rs.length:=by rw [h1];exact (List.getElem?_eq_some_iff.1 hi).1
  obtain ⟨d,hd,-⟩:=h2 i _ c (List.getElem?_eq_getElem hlt) hi
  exact hd.2
theorem A.cellsCs : Tryz.prog.cellsOf 23 = 1:=by kernel_rfl
theorem A.cellsMs : Tryz.prog.cellsOf 24 = 1:=by kernel_rfl
structure GoodCl (c : Cf.Cl) (B : Nat) : Prop where
 ac : L3.I6 c.ac
 pl : c.pool.length * 48 ≤ 140737488351232
 ps : ∀ x ∈ c.pool,GoodC x
 fl : c.fs.length * 88 ≤ 140737488351232
 ml : c.ms.length * 88 ≤ 140737488351232
 fs : ∀ m ∈ c.fs,GoodM m B
 ms : ∀ m ∈ c.ms,GoodM m B
 pB : c.pool.length ≤ B
 fB : c.fs.length ≤ B
 mB : c.ms.length ≤ B
theorem open_class {W : World} {base : Nat} {v : Value} {d : DataW H} {p : List MemPlace} (hv : Value.okWide Tryz.prog W .any base 26 v) (h : DataW.Trod enc Tryz.prog W 0 (fun _=>true) true 26 v d p) (hw : (d.weights Tryz.prog 26).all (·≤ reachBytes) = true) :
  ∃ (c : Cf.Cl) (vs : Array Value),v = .agg vs ∧ ClR W vs c ∧ GoodCl c (Rows.uptoBulk d):=by
 obtain ⟨cs,rfl,hsz⟩:=okWide_struct Tryz.underlying26 hv
 obtain ⟨fuel,hf0⟩:=h
 obtain ⟨xs,m,-,hy,hl,hlen,hf⟩:=DataW.trod_struct Tryz.underlying26 hf0
 obtain ⟨cs⟩:=cs
 have hl8 : cs.length = 8:=hl.trans (by kernel_rfl)
 have hx8 : xs.length = 8:=hlen
 match xs,hx8 with
 | [x0,x1,x2,x3,x4,x5,x6,x7],_ =>
 match cs,hl8 with
 | [k0,k1,k2,k3,k4,k5,k6,k7],_ =>
 obtain ⟨a0,e0,g0,w0⟩:=DataW.trod_int Tryz.underlying3 (hf 0 _ rfl)
 obtain ⟨a1,e1,g1,w1⟩:=DataW.trod_int Tryz.underlying3 (hf 1 _ rfl)
 obtain ⟨a3,e3,g3,w3⟩:=DataW.trod_int Tryz.underlying3 (hf 3 _ rfl)
 obtain ⟨a4,e4,g4,w4⟩:=DataW.trod_int Tryz.underlying3 (hf 4 _ rfl)
 obtain ⟨a5,e5,g5,w5⟩:=DataW.trod_int Tryz.underlying3 (hf 5 _ rfl)
 have q0 : ([k0,k1,k2,k3,k4,k5,k6,k7].drop 0).take (Tryz.prog.cellsOf 3) = [.int .i64 a0]:=e0
 have q1 : ([k0,k1,k2,k3,k4,k5,k6,k7].drop 1).take (Tryz.prog.cellsOf 3) = [.int .i64 a1]:=e1
 have q3 : ([k0,k1,k2,k3,k4,k5,k6,k7].drop 3).take (Tryz.prog.cellsOf 3) = [.int .i64 a3]:=e3
 have q4 : ([k0,k1,k2,k3,k4,k5,k6,k7].drop 4).take (Tryz.prog.cellsOf 3) = [.int .i64 a4]:=e4
 have q5 : ([k0,k1,k2,k3,k4,k5,k6,k7].drop 5).take (Tryz.prog.cellsOf 3) = [.int .i64 a5]:=e5
 have f2 : DataW.trod enc Tryz.prog W 0 (fun _=>true) true m 23 (([k0,k1,k2,k3,k4,k5,k6,k7].drop 2).take (Tryz.prog.cellsOf 23)) = some x2:=hf 2 _ rfl
 have f6 : DataW.trod enc Tryz.prog W 0 (fun _=>true) true m 24 (([k0,k1,k2,k3,k4,k5,k6,k7].drop 6).take (Tryz.prog.cellsOf 24)) = some x6:=hf 6 _ rfl
 have f7 : DataW.trod enc Tryz.prog W 0 (fun _=>true) true m 24 (([k0,k1,k2,k3,k4,k5,k6,k7].drop 7).take (Tryz.prog.cellsOf 24)) = some x7:=hf 7 _ rfl
 rw [A.cellsInt] at q0 q1 q3 q4 q5
 rw [A.cellsCs] at f2
 rw [A.cellsMs] at f6 f7
 simp only [List.drop_zero,List.take_succ_cons,List.take_zero,List.cons.injEq,and_true,List.drop_succ_cons] at q0 q1 q3 q4 q5 f2 f6 f7
 subst q0 q1 q3 q4 q5
 obtain ⟨rfl,-⟩:=Prod.mk.inj hy
 simp only [DataW.weights,Tryz.underlying26,List.map_cons,List.map_nil,DataW.weightsEach,List.all_append,Bool.and_eq_true] at hw
 obtain ⟨P,hp1,hp2,hp3,hp4⟩:=cs_cell f2 (by simp_all)
 obtain ⟨fs,hf1,hf2,hf3,hf4⟩:=ms_cell f6 (by simp_all)
 obtain ⟨ms,hm1,hm2,hm3,hm4⟩:=ms_cell f7 (by simp_all)
 have hB : Rows.uptoBulk x2.1 ≤ Rows.uptoBulk (.agg ([x0,x1,x2,x3,x4,x5,x6,x7].map (·.1)) : DataW H) ∧ Rows.uptoBulk x6.1 ≤ Rows.uptoBulk (.agg ([x0,x1,x2,x3,x4,x5,x6,x7].map (·.1)) : DataW H) ∧ Rows.uptoBulk x7.1 ≤ Rows.uptoBulk (.agg ([x0,x1,x2,x3,x4,x5,x6,x7].map (·.1)) : DataW H):=by
  simp only [Rows.uptoBulk,Rows.uptoBulkAll,List.map_cons,List.map_nil]
  omega
 refine ⟨⟨a0,a1,P,a3,a4,a5,fs,ms⟩,_,rfl,⟨k2,k6,k7,rfl,hp1,hf1,hm1⟩,⟨i6_wf w3,hp3,hp2,hf3,hm3,fun m hm=>?_,fun m hm=>?_,Nat.le_trans hp4 hB.1,Nat.le_trans hf4 hB.2.1,Nat.le_trans hm4 hB.2.2⟩⟩
 ·have g:=hf2 m hm
  exact ⟨g.ac,g.hs,Nat.le_trans g.cb hB.2.1,Nat.le_trans g.hb hB.2.1⟩
 ·have g:=hm2 m hm
  exact ⟨g.ac,g.hs,Nat.le_trans g.cb hB.2.2,Nat.le_trans g.hb hB.2.2⟩
end
end Go.Proofs.YtnojgiflgmnjlaaGreatDoor
namespace Go.Proofs.YtnojgiflgmnjlaaGreatDoor.lawOwn
open Go.ChangeShapes Go.WideShapes Go.ChangeAt Go.RowKit Go.WideMaps Go.WideElems
open Go.ChangeMaps (setBlock shut_map_nil open_string shut_string keptBut_setBlock frozen?_setBlock heap_setBlock_same)
theorem contract (H : Type) (enc : TypeId × Value → H) (W : World) (base : Nat) (args : Array Value) (ds gs : List (DataW H)) (before : List MemPlace)
  (hval : ∀ (j : Nat) t v,Tryz.f10.params[j]? = some t → args[j]? = some v → Value.okWide Tryz.prog W .any base t v)
  (hW : DataW.Whole enc Tryz.prog Tryz.f10.params.toList Rows.classfileOwnSpec.vars false W args.toList ds gs before)
  (hsz : (DataW.weightsEach Tryz.prog (Tryz.f10.params.toList ++ (OpenSpec.ofChange Rows.classfileOwnSpec).bare.plain.varTypes Tryz.prog) (ds ++ gs)).all (·≤ reachBytes) = true)
  (hL : laidMetH Tryz.prog Rows.classfileOwnRow.laid W) :
  Calls Tryz.prog 10 args W fun e W'=>∃ v,e = .returned v ∧ Rows.classfileOwnSpec.post enc Tryz.prog Tryz.f10 false true false false W args v W':=by
 have hW':=hW
 obtain ⟨p,q,hA0,hV,rfl,hfz,hnd⟩:=hW
 have hA : DataW.TrodAll enc Tryz.prog W 0 (fun _=>true) true Tryz.f10.params.toList args.toList ds p:=hA0
 rw [Tryz.params10] at hA hval hsz
 obtain ⟨v0,vs0,d0,ds0,p0,q0,hargs,rfl,rfl,h0,r0⟩:=trodAll_cons hA
 obtain ⟨rfl,rfl,rfl⟩:=trodAll_nil r0
 obtain rfl : args = #[v0]:=by cases args;simp_all
 obtain ⟨rfl,rfl⟩:=trodVars_none hV
 obtain ⟨x0,y0,rfl,wx0,wg0⟩:=open_class (hval 0 26 v0 rfl rfl) h0 (weights_eachT (j:=0) (t:=26) (d:=d0) rfl rfl hsz)
 refine (own_full x0 _ W (tabs1_of_laid hL) (tabs3_of_laid hL) wx0 ⟨by have:=wg0.pl;omega,fun c hc=>Nat.le_trans (wg0.ps c hc).s (by decide)⟩ (by refine ⟨?_,?_,?_,fun m hm=>?_,fun m hm=>?_⟩;(have:=wg0.pl;omega);(have:=wg0.fl;omega);(have:=wg0.ml;omega);(have:=(wg0.fs m hm).hs;omega);(have:=(wg0.ms m hm).hs;omega)) (by have:=wg0.fl;omega) (fun c hc=>⟨Nat.le_trans (wg0.ps c hc).s (by decide),(wg0.ps c hc).n⟩)).mono fun e W' ⟨he,hb⟩=>?_
 subst he
 exact ⟨_,rfl,Kit.law_post rfl rfl Tryz.underlying4 (by kernel_rfl) (by decide +kernel) hW' rfl hb⟩
theorem reads (os : Os) {H : Type} (enc : TypeId × Value → H) : ∃ places,DataW.whole enc Tryz.prog ((laidWorld os).forCall (fun _ _=>0) ⟨#[],#[.agg #[.int .i64 0,.int .i64 0,.slice none 0 0,.int .i64 0,.int .i64 0,.int .i64 0,.slice none 0 0,.slice none 0 0]],[]⟩).memory Tryz.f10.params.toList Rows.classfileOwnSpec.vars false (#[.agg #[.int .i64 0,.int .i64 0,.slice none 0 0,.int .i64 0,.int .i64 0,.int .i64 0,.slice none 0 0,.slice none 0 0]] : Array Value).toList 8 = some ([.agg [.lit (.int .i64 0),.lit (.int .i64 0),.nil,.lit (.int .i64 0),.lit (.int .i64 0),.lit (.int .i64 0),.nil,.nil]],[],places) :=
 ⟨[],by kernel_rfl⟩
theorem laid_met (os : Os) : laidMet Tryz.prog Rows.classfileOwnRow.laid ((laidWorld os).forCall (fun _ _=>0) ⟨#[],#[.agg #[.int .i64 0,.int .i64 0,.slice none 0 0,.int .i64 0,.int .i64 0,.int .i64 0,.slice none 0 0,.slice none 0 0]],[]⟩).memory :=
 laidMet_of_run' 8 (by kernel_rfl) (by kernel_rfl)
theorem lifted (os : Os) (started : os.Started) (H : Type) (enc : TypeId × Value → H) (F : Stop.Interp) :
  ReturnsInHanded {} Tryz.checked os 10 .any ((OpenSpec.ofChange Rows.classfileOwnSpec).preRow enc Tryz.prog Tryz.f10 Rows.classfileOwnRow.domain false Rows.classfileOwnRow.laid) (((OpenSpec.ofChange Rows.classfileOwnSpec).at F).post enc Tryz.prog Tryz.f10 false true false false):=by
 obtain ⟨places,hx⟩:=reads os enc
 refine returnsInHanded_of_row (C:=Tryz.checked) (s:=(OpenSpec.ofChange Rows.classfileOwnSpec)) own started (by kernel_rfl) Tryz.func10
  (witness_row_at (enc:=enc) (C:=Tryz.checked) false (laidWorld os) #[.agg #[.int .i64 0,.int .i64 0,.slice none 0 0,.int .i64 0,.int .i64 0,.int .i64 0,.slice none 0 0,.slice none 0 0]] rfl (by kernel_rfl) (by kernel_rfl) (by kernel_rfl)
   (OpenSpec.preRow_of_cond 8 hx (by kernel_rfl) (fun k hk=>by cases hk) (by kernel_rfl) (laid_met os))) ?_
 intro W base args ds gs before hval hW _ _ hsz hL _ _
 exact contract H enc W base args ds gs before hval hW hsz hL
theorem said : Rows.ClassfileOwnSaid :=
 OpenClaim.holds_of_cond 10 Tryz.f10 rfl rfl rfl rfl rfl rfl rfl ⟨rfl,rfl,rfl,rfl,rfl⟩ rfl rfl rfl rfl rfl (by kernel_rfl) Tryz.func10 (by kernel_rfl)
  (of_decide_eq_true (by kernel_rfl)) (by unfold Func.isWrapper;first|(rw [if_pos (by decide +kernel)];kernel_rfl)|(rw [if_neg (by decide +kernel)];exact ⟨rfl,rfl⟩))
  (fun os started H enc _ F=>by rw [OpenClaim.pre_eq_preRow];exact lifted os started H enc F)
theorem plain (f : FuncId) (fn : Func) (hf : Tryz.pinned.checked.prog.funcNamed "tabard/tabardlaw04.ClassfileOwn" = some f) (hfn : Tryz.pinned.checked.prog.funcs[f]? = some fn) :
  true = Tryz.pinned.checked.prog.looks [] ∧ ∀ (j : Nat) t,fn.params[j]? = some t → Tryz.pinned.checked.prog.wantsStandIn t = false:=by
 obtain rfl : f = 10:=Option.some.inj ((show Tryz.prog.funcNamed "tabard/tabardlaw04.ClassfileOwn" = some 10 by kernel_rfl).symm.trans hf) |>.symm
 obtain rfl : fn = Tryz.f10:=(Option.some.inj (Tryz.func10.symm.trans hfn)).symm
 refine ⟨by kernel_rfl,fun j t ht=>?_⟩
 rw [Tryz.params10] at ht
 have hm:=Array.mem_of_getElem? ht
 exact (show ∀ t ∈ #[26],Tryz.prog.wantsStandIn t = false by decide +kernel) t hm
theorem card : Rows.ClassfileOwnCardSaid :=
 Claim7.holds_tied_plain_at .later [] _ _ _ _ said (fun _ h=>by cases h) (by kernel_rfl) (fun _ h=>by cases h) classfileOwn_row_tie rfl ⟨rfl,rfl⟩ (by kernel_rfl) rfl plain (by kernel_rfl)
end Go.Proofs.YtnojgiflgmnjlaaGreatDoor.lawOwn
