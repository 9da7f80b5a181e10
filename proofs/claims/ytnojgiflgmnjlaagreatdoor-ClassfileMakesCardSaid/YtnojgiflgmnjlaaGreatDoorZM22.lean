/- Own texts for the claim, part 22. -/
import Derived.Test.YtnojgiflgmnjlaaGreatDoorZM21
import Derived.Lib.QuietBelow
import Derived.Deep.RegionHeld3
set_option maxRecDepth 100000
namespace Go.Proofs.YtnojgiflgmnjlaaGreatDoor
open Go Go.RowKit
def Ans (P : Cf.Cl → Int → Prop) (w : World) (e : Ending) (w' : World) : Prop :=
 ∃ x er i0 i1 i2 i3 i4 pa np pc fa nf fc ma nm mc,P x er ∧ e = .returned (.tuple #[.agg #[.int .i64 i0,.int .i64 i1,.slice pa np pc,.int .i64 i2,.int .i64 i3,.int .i64 i4,.slice fa nf fc,.slice ma nm mc],.int .i64 er]) ∧
  ClR w' #[.int .i64 i0,.int .i64 i1,.slice pa np pc,.int .i64 i2,.int .i64 i3,.int .i64 i4,.slice fa nf fc,.slice ma nm mc] x ∧ Below w.heap.size w w'
theorem Ans.of {P : Cf.Cl → Int → Prop} {w w' : World} {e : Ending} {x : Cf.Cl} {er : Int} {vs : Array Value} (h1 : P x er) (h2 : e = .returned (.tuple #[.agg vs,.int .i64 er])) (h3 : ClR w' vs x) (h4 : Below w.heap.size w w') : Ans P w e w':=by
 obtain ⟨pv,fv,mv,rfl,hp,hf,hm⟩:=h3
 have h3 : ClR w' _ x:=⟨pv,fv,mv,rfl,hp,hf,hm⟩
 obtain ⟨pa,pc,rfl⟩:=hp.len
 obtain ⟨fa,fc,rfl⟩:=hf.len
 obtain ⟨ma,mc,rfl⟩:=hm.len
 exact ⟨x,er,_,_,_,_,_,_,_,_,_,_,_,_,_,_,h1,h2,h3,h4⟩
def WtR (mk : List L3.Cp.C → Cf.Mb → Cf.Cl) (c : Cf.Cl) (m : Cf.Mb) (a b : ByteArray) (x : Cf.Cl) (er : Int) : Prop :=
 ∃ l1 i1 e1 l2 i2 e2,AdS c.pool 0 ⟨1,a,0,0,0⟩ l1 i1 e1 ∧ AdS l1 e1 ⟨1,b,0,0,0⟩ l2 i2 e2 ∧
  ((e2 ≠ 0 ∧ x = Cf.K0 ∧ er = e2) ∨ (e2 = 0 ∧ ∃ e3,Cf.ClIs (mk l2 { m with nm:=(i1 : Nat),ds:=(i2 : Nat) }) e3 ∧ ((e3 = 0 ∧ x = mk l2 { m with nm:=(i1 : Nat),ds:=(i2 : Nat) } ∧ er = 0) ∨ (e3 ≠ 0 ∧ x = Cf.K0 ∧ er = e3))))
theorem WtR.det {mk : List L3.Cp.C → Cf.Mb → Cf.Cl} {c : Cf.Cl} {m : Cf.Mb} {a b : ByteArray} {x y : Cf.Cl} {e f : Int} (h : WtR mk c m a b x e) (k : WtR mk c m a b y f) : x = y ∧ e = f:=by
 obtain ⟨l1,i1,e1,l2,i2,e2,h1,h2,h3⟩:=h
 obtain ⟨l1',i1',e1',l2',i2',e2',k1,k2,k3⟩:=k
 obtain ⟨rfl,rfl,rfl⟩:=h1.det k1
 obtain ⟨rfl,rfl,rfl⟩:=h2.det k2
 rcases h3 with ⟨hz,rfl,rfl⟩|⟨hz,e3,hc,h4⟩ <;> rcases k3 with ⟨kz,rfl,rfl⟩|⟨kz,e3',kc,k4⟩
 ·exact ⟨rfl,rfl⟩
 ·exact absurd kz hz
 ·exact absurd hz kz
 ·obtain rfl:=Cf.ClIs.det hc kc
  rcases h4 with ⟨h5,rfl,rfl⟩|⟨h5,rfl,rfl⟩ <;> rcases k4 with ⟨k5,rfl,rfl⟩|⟨k5,rfl,rfl⟩
  all_goals first|exact ⟨rfl,rfl⟩|exact absurd h5 k5|exact absurd k5 h5
set_option maxHeartbeats 4000000 in
theorem makes_law (P1 P2 P3 : Cf.Cl → Int → Prop) (D1 : ∀ {x y e f},P1 x e → P1 y f → x = y ∧ e = f) (D2 : ∀ {x y e f},P2 x e → P2 y f → x = y ∧ e = f) (D3 : ∀ {x y e f},P3 x e → P3 y f → x = y ∧ e = f)
  (mi ma ac th su acc : Int) (np nf nm : Nat) (pa fa ma2 xa ya : Option Addr) (pc fc mc xc yc : Nat) (mac mnm mds mst mlc : Int) (nx ny : Nat) (a b : ByteArray) (w : World) (t1 : L1.Tabs w) (t3 : L3.Tabs w)
  (h1 : ∀ W,Below w.heap.size w W → Calls Tryz.prog 26 #[.agg #[.int .i64 mi,.int .i64 ma,.slice pa np pc,.int .i64 ac,.int .i64 th,.int .i64 su,.slice fa nf fc,.slice ma2 nm mc],.int .i64 acc,.string a,.string b] W (Ans P1 W))
  (h2 : ∀ W,Below w.heap.size w W → Calls Tryz.prog 27 #[.agg #[.int .i64 mi,.int .i64 ma,.slice pa np pc,.int .i64 ac,.int .i64 th,.int .i64 su,.slice fa nf fc,.slice ma2 nm mc],.int .i64 acc,.string a,.string b] W (Ans P1 W))
  (h3 : ∀ W,Below w.heap.size w W → Calls Tryz.prog 28 #[.agg #[.int .i64 mi,.int .i64 ma,.slice pa np pc,.int .i64 ac,.int .i64 th,.int .i64 su,.slice fa nf fc,.slice ma2 nm mc],.string a,.string b,.agg #[.int .i64 mac,.int .i64 mnm,.int .i64 mds,.int .i64 mst,.int .i64 mlc,.slice xa nx xc,.slice ya ny yc]] W (Ans P2 W))
  (h4 : ∀ W,Below w.heap.size w W → Calls Tryz.prog 29 #[.agg #[.int .i64 mi,.int .i64 ma,.slice pa np pc,.int .i64 ac,.int .i64 th,.int .i64 su,.slice fa nf fc,.slice ma2 nm mc],.string a,.string b,.agg #[.int .i64 mac,.int .i64 mnm,.int .i64 mds,.int .i64 mst,.int .i64 mlc,.slice xa nx xc,.slice ya ny yc]] W (Ans P2 W))
  (h5 : ∀ W,Below w.heap.size w W → Calls Tryz.prog 30 #[.string a,.string b] W (Ans P3 W))
  (h6 : ∀ W,Below w.heap.size w W → Calls Tryz.prog 31 #[.string a,.string b] W (Ans P3 W)) :
  Calls Tryz.prog 6 #[.agg #[.int .i64 mi,.int .i64 ma,.slice pa np pc,.int .i64 ac,.int .i64 th,.int .i64 su,.slice fa nf fc,.slice ma2 nm mc],.int .i64 acc,.string a,.string b,.agg #[.int .i64 mac,.int .i64 mnm,.int .i64 mds,.int .i64 mst,.int .i64 mlc,.slice xa nx xc,.slice ya ny yc]] w fun e w'=>e = .returned (.bool true) ∧ Below w.heap.size w w':=by
 have HT:=hid (And.intro t1 t3)
 have H1:=hid h1
 have H2:=hid h2
 have H3:=hid h3
 have H4:=hid h4
 have H5:=hid h5
 have H6:=hid h6
 clear t1 t3 h1 h2 h3 h4 h5 h6
 go_enter Tryz.func6,Tryz.ntmps6
 go_wp2_with fail
 obtain ⟨W1,hW1⟩ : ∃ W1,W1 = ((w.alloc (.cells #[.int .i64 mi,.int .i64 ma,.slice pa np pc,.int .i64 ac,.int .i64 th,.int .i64 su,.slice fa nf fc,.slice ma2 nm mc] 26)).alloc (.cells #[.int .i64 mac,.int .i64 mnm,.int .i64 mds,.int .i64 mst,.int .i64 mlc,.slice xa nx xc,.slice ya ny yc] 42)):=⟨_,rfl⟩
 obtain ⟨bC,bM,hzW,B1⟩:=two hW1
 rw [← hW1]
 have HB1:=hid B1
 have BC1:=hid bC
 have BM1:=hid bM
 clear hW1 bC bM B1
 refine (H1.out W1 HB1.out).mono ?_
 rintro e w1 ⟨x1,er1,i10,i11,i12,i13,i14,pa1,np1,pc1,fa1,nf1,fc1,mq1,nm1,mc1,hP,rfl,hR,hb⟩
 have HP1:=hid hP
 have hBw:=belows HB1.out hb HB1.out.size
 have bC:=BC1.out.below hb BC1.out.sz
 have bM:=BM1.out.below hb BM1.out.sz
 have hlc:=bC.sz
 have hlm:=bM.sz
 obtain ⟨q0,q1,q2,q3,q4,q5,q6,q7⟩:=bC.cells8
 have HR_:=hid hR
 have HBw_:=hid hBw
 have BC_:=hid bC
 have BM_:=hid bM
 clear hP hR hb hBw bC bM
 go_wp2_with fail
 obtain ⟨W2,hW⟩ : ∃ W,W = w1.alloc (.cells #[.int .i64 i10,.int .i64 i11,.slice pa1 np1 pc1,.int .i64 i12,.int .i64 i13,.int .i64 i14,.slice fa1 nf1 fc1,.slice mq1 nm1 mc1] 26):=⟨_,rfl⟩
 rw [← hW]
 have hbn : Below w1.heap.size w1 W2:=by rw [hW];exact (Below.refl _ _).alloc (Nat.le_refl _) _
 have K1_2:=hid (show L3.BX W2 w1.heap.size #[.int .i64 i10,.int .i64 i11,.slice pa1 np1 pc1,.int .i64 i12,.int .i64 i13,.int .i64 i14,.slice fa1 nf1 fc1,.slice mq1 nm1 mc1] 26 by rw [hW];exact L3.BX.new _ _ _)
 have R1_2:=hid (HR_.out.below hbn (Nat.le_refl _))
 have HB2:=hid (belows HBw_.out hbn HBw_.out.size)
 have BC2:=hid (BC_.out.below hbn BC_.out.sz)
 have BM2:=hid (BM_.out.below hbn BM_.out.sz)
 clear hW hbn HR_ HBw_ BC_ BM_ hlc hlm HB1 BC1 BM1 q0 q1 q2 q3 q4 q5 q6 q7
 refine (H2.out W2 HB2.out).mono ?_
 rintro e w2 ⟨y,f,i20,i21,i22,i23,i24,pa2,np2,pc2,fa2,nf2,fc2,mq2,nm2,mc2,hP,rfl,hR,hb⟩
 obtain ⟨rfl,rfl⟩:=D1 HP1.out hP
 have hBw:=belows HB2.out hb HB2.out.size
 have bC:=BC2.out.below hb BC2.out.sz
 have bM:=BM2.out.below hb BM2.out.sz
 have hlc:=bC.sz
 have hlm:=bM.sz
 have k1:=K1_2.out.below hb K1_2.out.sz
 have r1:=R1_2.out.below hb (Nat.le_refl _)
 obtain ⟨q0,q1,q2,q3,q4,q5,q6,q7⟩:=bC.cells8
 obtain ⟨m0,m1,m2,m3,m4,m5,m6⟩:=bM.cells7
 have HR_:=hid hR
 have HBw_:=hid hBw
 have BC_:=hid bC
 have BM_:=hid bM
 have K1_:=hid k1
 have R1_:=hid r1
 clear hP hR hb hBw bC bM k1 r1
 go_wp2_with fail
 obtain ⟨W3,hW⟩ : ∃ W,W = w2.alloc (.cells #[.int .i64 i20,.int .i64 i21,.slice pa2 np2 pc2,.int .i64 i22,.int .i64 i23,.int .i64 i24,.slice fa2 nf2 fc2,.slice mq2 nm2 mc2] 26):=⟨_,rfl⟩
 rw [← hW]
 have hbn : Below w2.heap.size w2 W3:=by rw [hW];exact (Below.refl _ _).alloc (Nat.le_refl _) _
 have K2_3:=hid (show L3.BX W3 w2.heap.size #[.int .i64 i20,.int .i64 i21,.slice pa2 np2 pc2,.int .i64 i22,.int .i64 i23,.int .i64 i24,.slice fa2 nf2 fc2,.slice mq2 nm2 mc2] 26 by rw [hW];exact L3.BX.new _ _ _)
 have R2_3:=hid (HR_.out.below hbn (Nat.le_refl _))
 have HB3:=hid (belows HBw_.out hbn HBw_.out.size)
 have BC3:=hid (BC_.out.below hbn BC_.out.sz)
 have BM3:=hid (BM_.out.below hbn BM_.out.sz)
 have K1_3:=hid (K1_.out.below hbn K1_.out.sz)
 have R1_3:=hid (R1_.out.below hbn (Nat.le_refl _))
 clear hW hbn HR_ HBw_ BC_ BM_ hlc hlm K1_ R1_ K1_2 R1_2 HB2 BC2 BM2 q0 q1 q2 q3 q4 q5 q6 q7 m0 m1 m2 m3 m4 m5 m6
 refine (H3.out W3 HB3.out).mono ?_
 rintro e w3 ⟨x2,er2,i30,i31,i32,i33,i34,pa3,np3,pc3,fa3,nf3,fc3,mq3,nm3,mc3,hP,rfl,hR,hb⟩
 have HP3:=hid hP
 have hBw:=belows HB3.out hb HB3.out.size
 have bC:=BC3.out.below hb BC3.out.sz
 have bM:=BM3.out.below hb BM3.out.sz
 have hlc:=bC.sz
 have hlm:=bM.sz
 have k1:=K1_3.out.below hb K1_3.out.sz
 have r1:=R1_3.out.below hb (Nat.le_refl _)
 have k2:=K2_3.out.below hb K2_3.out.sz
 have r2:=R2_3.out.below hb (Nat.le_refl _)
 obtain ⟨q0,q1,q2,q3,q4,q5,q6,q7⟩:=bC.cells8
 obtain ⟨m0,m1,m2,m3,m4,m5,m6⟩:=bM.cells7
 have HR_:=hid hR
 have HBw_:=hid hBw
 have BC_:=hid bC
 have BM_:=hid bM
 have K1_:=hid k1
 have R1_:=hid r1
 have K2_:=hid k2
 have R2_:=hid r2
 clear hP hR hb hBw bC bM k1 r1 k2 r2
 go_wp2_with fail
 obtain ⟨W4,hW⟩ : ∃ W,W = w3.alloc (.cells #[.int .i64 i30,.int .i64 i31,.slice pa3 np3 pc3,.int .i64 i32,.int .i64 i33,.int .i64 i34,.slice fa3 nf3 fc3,.slice mq3 nm3 mc3] 26):=⟨_,rfl⟩
 rw [← hW]
 have hbn : Below w3.heap.size w3 W4:=by rw [hW];exact (Below.refl _ _).alloc (Nat.le_refl _) _
 have K3_4:=hid (show L3.BX W4 w3.heap.size #[.int .i64 i30,.int .i64 i31,.slice pa3 np3 pc3,.int .i64 i32,.int .i64 i33,.int .i64 i34,.slice fa3 nf3 fc3,.slice mq3 nm3 mc3] 26 by rw [hW];exact L3.BX.new _ _ _)
 have R3_4:=hid (HR_.out.below hbn (Nat.le_refl _))
 have HB4:=hid (belows HBw_.out hbn HBw_.out.size)
 have BC4:=hid (BC_.out.below hbn BC_.out.sz)
 have BM4:=hid (BM_.out.below hbn BM_.out.sz)
 have K1_4:=hid (K1_.out.below hbn K1_.out.sz)
 have R1_4:=hid (R1_.out.below hbn (Nat.le_refl _))
 have K2_4:=hid (K2_.out.below hbn K2_.out.sz)
 have R2_4:=hid (R2_.out.below hbn (Nat.le_refl _))
 clear hW hbn HR_ HBw_ BC_ BM_ hlc hlm K1_ R1_ K1_3 R1_3 K2_ R2_ K2_3 R2_3 HB3 BC3 BM3 q0 q1 q2 q3 q4 q5 q6 q7 m0 m1 m2 m3 m4 m5 m6
 refine (H4.out W4 HB4.out).mono ?_
 rintro e w4 ⟨y,f,i40,i41,i42,i43,i44,pa4,np4,pc4,fa4,nf4,fc4,mq4,nm4,mc4,hP,rfl,hR,hb⟩
 obtain ⟨rfl,rfl⟩:=D2 HP3.out hP
 have hBw:=belows HB4.out hb HB4.out.size
 have bC:=BC4.out.below hb BC4.out.sz
 have bM:=BM4.out.below hb BM4.out.sz
 have hlc:=bC.sz
 have hlm:=bM.sz
 have k1:=K1_4.out.below hb K1_4.out.sz
 have r1:=R1_4.out.below hb (Nat.le_refl _)
 have k2:=K2_4.out.below hb K2_4.out.sz
 have r2:=R2_4.out.below hb (Nat.le_refl _)
 have k3:=K3_4.out.below hb K3_4.out.sz
 have r3:=R3_4.out.below hb (Nat.le_refl _)
 have HR_:=hid hR
 have HBw_:=hid hBw
 have BC_:=hid bC
 have BM_:=hid bM
 have K1_:=hid k1
 have R1_:=hid r1
 have K2_:=hid k2
 have R2_:=hid r2
 have K3_:=hid k3
 have R3_:=hid r3
 clear hP hR hb hBw bC bM k1 r1 k2 r2 k3 r3
 go_wp2_with fail
 obtain ⟨W5,hW⟩ : ∃ W,W = w4.alloc (.cells #[.int .i64 i40,.int .i64 i41,.slice pa4 np4 pc4,.int .i64 i42,.int .i64 i43,.int .i64 i44,.slice fa4 nf4 fc4,.slice mq4 nm4 mc4] 26):=⟨_,rfl⟩
 rw [← hW]
 have hbn : Below w4.heap.size w4 W5:=by rw [hW];exact (Below.refl _ _).alloc (Nat.le_refl _) _
 have K4_5:=hid (show L3.BX W5 w4.heap.size #[.int .i64 i40,.int .i64 i41,.slice pa4 np4 pc4,.int .i64 i42,.int .i64 i43,.int .i64 i44,.slice fa4 nf4 fc4,.slice mq4 nm4 mc4] 26 by rw [hW];exact L3.BX.new _ _ _)
 have R4_5:=hid (HR_.out.below hbn (Nat.le_refl _))
 have HB5:=hid (belows HBw_.out hbn HBw_.out.size)
 have K1_5:=hid (K1_.out.below hbn K1_.out.sz)
 have R1_5:=hid (R1_.out.below hbn (Nat.le_refl _))
 have K2_5:=hid (K2_.out.below hbn K2_.out.sz)
 have R2_5:=hid (R2_.out.below hbn (Nat.le_refl _))
 have K3_5:=hid (K3_.out.below hbn K3_.out.sz)
 have R3_5:=hid (R3_.out.below hbn (Nat.le_refl _))
 clear hW hbn HR_ HBw_ BC_ BM_ hlc hlm K1_ R1_ K1_4 R1_4 K2_ R2_ K2_4 R2_4 K3_ R3_ K3_4 R3_4 HB4 BC4 BM4
 refine (H5.out W5 HB5.out).mono ?_
 rintro e w5 ⟨x3,er3,i50,i51,i52,i53,i54,pa5,np5,pc5,fa5,nf5,fc5,mq5,nm5,mc5,hP,rfl,hR,hb⟩
 have HP5:=hid hP
 have hBw:=belows HB5.out hb HB5.out.size
 have k1:=K1_5.out.below hb K1_5.out.sz
 have r1:=R1_5.out.below hb (Nat.le_refl _)
 have k2:=K2_5.out.below hb K2_5.out.sz
 have r2:=R2_5.out.below hb (Nat.le_refl _)
 have k3:=K3_5.out.below hb K3_5.out.sz
 have r3:=R3_5.out.below hb (Nat.le_refl _)
 have k4:=K4_5.out.below hb K4_5.out.sz
 have r4:=R4_5.out.below hb (Nat.le_refl _)
 have HR_:=hid hR
 have HBw_:=hid hBw
 have K1_:=hid k1
 have R1_:=hid r1
 have K2_:=hid k2
 have R2_:=hid r2
 have K3_:=hid k3
 have R3_:=hid r3
 have K4_:=hid k4
 have R4_:=hid r4
 clear hP hR hb hBw k1 r1 k2 r2 k3 r3 k4 r4
 go_wp2_with fail
 obtain ⟨W6,hW⟩ : ∃ W,W = w5.alloc (.cells #[.int .i64 i50,.int .i64 i51,.slice pa5 np5 pc5,.int .i64 i52,.int .i64 i53,.int .i64 i54,.slice fa5 nf5 fc5,.slice mq5 nm5 mc5] 26):=⟨_,rfl⟩
 rw [← hW]
 have hbn : Below w5.heap.size w5 W6:=by rw [hW];exact (Below.refl _ _).alloc (Nat.le_refl _) _
 have K5_6:=hid (show L3.BX W6 w5.heap.size #[.int .i64 i50,.int .i64 i51,.slice pa5 np5 pc5,.int .i64 i52,.int .i64 i53,.int .i64 i54,.slice fa5 nf5 fc5,.slice mq5 nm5 mc5] 26 by rw [hW];exact L3.BX.new _ _ _)
 have R5_6:=hid (HR_.out.below hbn (Nat.le_refl _))
 have HB6:=hid (belows HBw_.out hbn HBw_.out.size)
 have K1_6:=hid (K1_.out.below hbn K1_.out.sz)
 have R1_6:=hid (R1_.out.below hbn (Nat.le_refl _))
 have K2_6:=hid (K2_.out.below hbn K2_.out.sz)
 have R2_6:=hid (R2_.out.below hbn (Nat.le_refl _))
 have K3_6:=hid (K3_.out.below hbn K3_.out.sz)
 have R3_6:=hid (R3_.out.below hbn (Nat.le_refl _))
 have K4_6:=hid (K4_.out.below hbn K4_.out.sz)
 have R4_6:=hid (R4_.out.below hbn (Nat.le_refl _))
 clear hW hbn HR_ HBw_ K1_ R1_ K1_5 R1_5 K2_ R2_ K2_5 R2_5 K3_ R3_ K3_5 R3_5 K4_ R4_ K4_5 R4_5 HB5
 refine (H6.out W6 HB6.out).mono ?_
 rintro e w6 ⟨y,f,i60,i61,i62,i63,i64,pa6,np6,pc6,fa6,nf6,fc6,mq6,nm6,mc6,hP,rfl,hR,hb⟩
 obtain ⟨rfl,rfl⟩:=D3 HP5.out hP
 have hBw:=belows HB6.out hb HB6.out.size
 have k1:=K1_6.out.below hb K1_6.out.sz
 have r1:=R1_6.out.below hb (Nat.le_refl _)
 have k2:=K2_6.out.below hb K2_6.out.sz
 have r2:=R2_6.out.below hb (Nat.le_refl _)
 have k3:=K3_6.out.below hb K3_6.out.sz
 have r3:=R3_6.out.below hb (Nat.le_refl _)
 have k4:=K4_6.out.below hb K4_6.out.sz
 have r4:=R4_6.out.below hb (Nat.le_refl _)
 have k5:=K5_6.out.below hb K5_6.out.sz
 have r5:=R5_6.out.below hb (Nat.le_refl _)
 have HR_:=hid hR
 have HBw_:=hid hBw
 have K1_:=hid k1
 have R1_:=hid r1
 have K2_:=hid k2
 have R2_:=hid r2
 have K3_:=hid k3
 have R3_:=hid r3
 have K4_:=hid k4
 have R4_:=hid r4
 have K5_:=hid k5
 have R5_:=hid r5
 clear hP hR hb hBw k1 r1 k2 r2 k3 r3 k4 r4 k5 r5
 go_wp2_with fail
 obtain ⟨W7,hW⟩ : ∃ W,W = w6.alloc (.cells #[.int .i64 i60,.int .i64 i61,.slice pa6 np6 pc6,.int .i64 i62,.int .i64 i63,.int .i64 i64,.slice fa6 nf6 fc6,.slice mq6 nm6 mc6] 26):=⟨_,rfl⟩
 rw [← hW]
 have hbn : Below w6.heap.size w6 W7:=by rw [hW];exact (Below.refl _ _).alloc (Nat.le_refl _) _
 have K6_7:=hid (show L3.BX W7 w6.heap.size #[.int .i64 i60,.int .i64 i61,.slice pa6 np6 pc6,.int .i64 i62,.int .i64 i63,.int .i64 i64,.slice fa6 nf6 fc6,.slice mq6 nm6 mc6] 26 by rw [hW];exact L3.BX.new _ _ _)
 have R6_7:=hid (HR_.out.below hbn (Nat.le_refl _))
 have HB7:=hid (belows HBw_.out hbn HBw_.out.size)
 have K1_7:=hid (K1_.out.below hbn K1_.out.sz)
 have R1_7:=hid (R1_.out.below hbn (Nat.le_refl _))
 have K2_7:=hid (K2_.out.below hbn K2_.out.sz)
 have R2_7:=hid (R2_.out.below hbn (Nat.le_refl _))
 have K3_7:=hid (K3_.out.below hbn K3_.out.sz)
 have R3_7:=hid (R3_.out.below hbn (Nat.le_refl _))
 have K4_7:=hid (K4_.out.below hbn K4_.out.sz)
 have R4_7:=hid (R4_.out.below hbn (Nat.le_refl _))
 have K5_7:=hid (K5_.out.below hbn K5_.out.sz)
 have R5_7:=hid (R5_.out.below hbn (Nat.le_refl _))
 clear hW hbn HR_ HBw_ K1_ R1_ K1_6 R1_6 K2_ R2_ K2_6 R2_6 K3_ R3_ K3_6 R3_6 K4_ R4_ K4_6 R4_6 K5_ R5_ K5_6 R5_6 HB6
 refine (begun_any _ (HT.out.1.below HB7.out HT.out.1.size) (HT.out.2.below HB7.out HT.out.2.size)).mono ?_
 rintro e v7 ⟨rfl,hb⟩
 have HB8:=hid (belows HB7.out hb HB7.out.size)
 have K1_8:=hid (K1_7.out.below hb K1_7.out.sz)
 have R1_8:=hid (R1_7.out.below hb (Nat.le_refl _))
 have K2_8:=hid (K2_7.out.below hb K2_7.out.sz)
 have R2_8:=hid (R2_7.out.below hb (Nat.le_refl _))
 have K3_8:=hid (K3_7.out.below hb K3_7.out.sz)
 have R3_8:=hid (R3_7.out.below hb (Nat.le_refl _))
 have K4_8:=hid (K4_7.out.below hb K4_7.out.sz)
 have R4_8:=hid (R4_7.out.below hb (Nat.le_refl _))
 have K5_8:=hid (K5_7.out.below hb K5_7.out.sz)
 have R5_8:=hid (R5_7.out.below hb (Nat.le_refl _))
 have K6_8:=hid (K6_7.out.below hb K6_7.out.sz)
 have R6_8:=hid (R6_7.out.below hb (Nat.le_refl _))
 clear hb K1_7 R1_7 K2_7 R2_7 K3_7 R3_7 K4_7 R4_7 K5_7 R5_7 K6_7 R6_7
 have b1:=K1_8.out
 have z10:=b1.cell 0;have z11:=b1.cell 1;have z12:=b1.cell 2;have z13:=b1.cell 3;have z14:=b1.cell 4;have z15:=b1.cell 5;have z16:=b1.cell 6;have z17:=b1.cell 7;simp at z10 z11 z12 z13 z14 z15 z16 z17
 have b2:=K2_8.out
 have z20:=b2.cell 0;have z21:=b2.cell 1;have z22:=b2.cell 2;have z23:=b2.cell 3;have z24:=b2.cell 4;have z25:=b2.cell 5;have z26:=b2.cell 6;have z27:=b2.cell 7;simp at z20 z21 z22 z23 z24 z25 z26 z27
 clear b1 b2
 go_wp2_with fail
 clear z10 z11 z12 z13 z14 z15 z16 z17 z20 z21 z22 z23 z24 z25 z26 z27
 refine (rsameG_any x1 x1 _ _ _ R1_8.out R2_8.out).mono ?_
 rintro e v8 ⟨rfl,hb⟩
 rw [decide_eq_true rfl]
 have HB9:=hid (belows HB8.out hb HB8.out.size)
 have K3_9:=hid (K3_8.out.below hb K3_8.out.sz)
 have R3_9:=hid (R3_8.out.below hb (Nat.le_refl _))
 have K4_9:=hid (K4_8.out.below hb K4_8.out.sz)
 have R4_9:=hid (R4_8.out.below hb (Nat.le_refl _))
 have K5_9:=hid (K5_8.out.below hb K5_8.out.sz)
 have R5_9:=hid (R5_8.out.below hb (Nat.le_refl _))
 have K6_9:=hid (K6_8.out.below hb K6_8.out.sz)
 have R6_9:=hid (R6_8.out.below hb (Nat.le_refl _))
 clear hb
 have b3:=K3_9.out
 have z30:=b3.cell 0;have z31:=b3.cell 1;have z32:=b3.cell 2;have z33:=b3.cell 3;have z34:=b3.cell 4;have z35:=b3.cell 5;have z36:=b3.cell 6;have z37:=b3.cell 7;simp at z30 z31 z32 z33 z34 z35 z36 z37
 have b4:=K4_9.out
 have z40:=b4.cell 0;have z41:=b4.cell 1;have z42:=b4.cell 2;have z43:=b4.cell 3;have z44:=b4.cell 4;have z45:=b4.cell 5;have z46:=b4.cell 6;have z47:=b4.cell 7;simp at z40 z41 z42 z43 z44 z45 z46 z47
 clear b3 b4
 go_wp2_with fail
 clear z30 z31 z32 z33 z34 z35 z36 z37 z40 z41 z42 z43 z44 z45 z46 z47
 refine (rsameG_any x2 x2 _ _ _ R3_9.out R4_9.out).mono ?_
 rintro e v9 ⟨rfl,hb⟩
 rw [decide_eq_true rfl]
 have HB10:=hid (belows HB9.out hb HB9.out.size)
 have K5_10:=hid (K5_9.out.below hb K5_9.out.sz)
 have R5_10:=hid (R5_9.out.below hb (Nat.le_refl _))
 have K6_10:=hid (K6_9.out.below hb K6_9.out.sz)
 have R6_10:=hid (R6_9.out.below hb (Nat.le_refl _))
 clear hb
 have b5:=K5_10.out
 have z50:=b5.cell 0;have z51:=b5.cell 1;have z52:=b5.cell 2;have z53:=b5.cell 3;have z54:=b5.cell 4;have z55:=b5.cell 5;have z56:=b5.cell 6;have z57:=b5.cell 7;simp at z50 z51 z52 z53 z54 z55 z56 z57
 have b6:=K6_10.out
 have z60:=b6.cell 0;have z61:=b6.cell 1;have z62:=b6.cell 2;have z63:=b6.cell 3;have z64:=b6.cell 4;have z65:=b6.cell 5;have z66:=b6.cell 6;have z67:=b6.cell 7;simp at z60 z61 z62 z63 z64 z65 z66 z67
 clear b5 b6
 go_wp2_with fail
 clear z50 z51 z52 z53 z54 z55 z56 z57 z60 z61 z62 z63 z64 z65 z66 z67
 refine (rsameG_any x3 x3 _ _ _ R5_10.out R6_10.out).mono ?_
 rintro e v10 ⟨rfl,hb⟩
 rw [decide_eq_true rfl]
 have HB11:=hid (belows HB10.out hb HB10.out.size)
 clear hb
 go_wp2
 go_ret
 exact ⟨rfl,HB11.out⟩
end Go.Proofs.YtnojgiflgmnjlaaGreatDoor
namespace Go.Proofs.YtnojgiflgmnjlaaGreatDoor
open Go Go.RowKit
theorem i6z : L3.I6 0:=by unfold L3.I6;omega
structure PoolR (l : List L3.Cp.C) : Prop where
 ok : ∀ x ∈ l,x.s.size ≤ 140737488355328 ∧ L3.I6 x.n
 len : l.length * 48 ≤ 140737488355328
theorem PoolR.add {l m : List L3.Cp.C} {c : L3.Cp.C} {i : Nat} (h : PoolR l) (hc : c.s.size ≤ 140737488355328 ∧ L3.I6 c.n) (ha : L3.AdIs l c m i 0) : PoolR m:=by
 obtain ⟨-,-,-,-,-,h6⟩:=L3.ad_good ha
 refine ⟨fun x hx=>?_,(ad_sz ha (.inl rfl)).1⟩
 rcases h6 x hx with h7|rfl|rfl
 ·exact h.ok x h7
 ·exact hc
 ·exact ⟨by decide,i6z⟩
theorem rutf0_any (l : List L3.Cp.C) (s : ByteArray) (v : Value) (w : World) (hv : Kit.IsS 5 w v l.length (l.flatMap L3.cL)) (hl : PoolR l) (hs : s.size ≤ 140737488355328) :
  Calls Tryz.prog 72 #[v,.string s,.bool false] w (L3.AdPost l ⟨1,s,0,0,0⟩ w):=by
 have HA:=hid (L3.radd_any l ⟨1,s,0,0,0⟩ v w hv hl.ok hs i6z hl.len)
 obtain ⟨pa,pc,rfl⟩:=hv.len
 clear hv hl hs
 go_enter Tryz.func72,Tryz.ntmps72
 go_wp2_with (go_at_call 126;refine HA.out.mono ?_;rintro e w1 ⟨m,i,er,u,had,rfl,ho,hb⟩;obtain ⟨a1,c1,rfl⟩:=L3.own_form ho;have HD:=hid had;have HO:=hid ho;have HB:=hid hb;clear had ho hb;by_cases hz : er = 0;all_goals (first|(subst hz)|(have hd : (er != 0) = true:=(by simpa using hz);clear hz)))
 all_goals exact bodyPost_ret (v:=.tuple #[.slice a1 m.length c1,.int .i64 (i : Nat),.int .i64 _]) (by simp [results,Tryz.results72,go_sem];try rfl) rfl ⟨m,i,_,_,HD.out,rfl,HO.out,HB.out⟩
def UtP (l : List L3.Cp.C) (s : ByteArray) (w : World) (e : Ending) (w' : World) : Prop :=
 ∃ m i er,L3.AdIs l ⟨1,s,0,0,0⟩ m i er ∧ ((er ≠ 0 ∧ ∃ v,e = .returned (.tuple #[v,.int .i64 (i : Nat),.int .i64 er]) ∧ L3.OwnC w' w.heap.size v m) ∨
  (er = 0 ∧ ∃ m2 i2 e2 v,L3.AdIs m ⟨7,⟨#[]⟩,0,(i : Nat),0⟩ m2 i2 e2 ∧ e = .returned (.tuple #[v,.int .i64 (i2 : Nat),.int .i64 e2]) ∧ L3.OwnC w' w.heap.size v m2)) ∧ Below w.heap.size w w'
theorem rutf1_any (l : List L3.Cp.C) (s : ByteArray) (v : Value) (w : World) (hv : Kit.IsS 5 w v l.length (l.flatMap L3.cL)) (hl : PoolR l) (hs : s.size ≤ 140737488355328) :
  Calls Tryz.prog 72 #[v,.string s,.bool true] w (UtP l s w):=by
 have HA:=hid (L3.radd_any l ⟨1,s,0,0,0⟩ v w hv hl.ok hs i6z hl.len)
 have HL:=hid hl
 have HS:=hid hs
 obtain ⟨pa,pc,rfl⟩:=hv.len
 clear hv hl hs
 go_enter Tryz.func72,Tryz.ntmps72
 go_wp2_with (go_at_call 126;(fail_if_success (have _g:=HB));refine HA.out.mono ?_;rintro e w1 ⟨m,i,er,u,had,rfl,ho,hb⟩;obtain ⟨a1,c1,rfl⟩:=L3.own_form ho;have HD:=hid had;have HO:=hid ho;have HB:=hid hb;clear had ho hb;by_cases hz : er = 0;all_goals (first|(subst hz)|(have hd : (er != 0) = true:=(by simpa using hz);have HZ:=hid hz;clear hz)))
 ·have hm:=HL.out.add ⟨HS.out,i6z⟩ HD.out
  refine (L3.radd_any m ⟨7,⟨#[]⟩,0,(i : Nat),0⟩ _ _ (Kit.isS_of_owns HO.out (by have:=hm.len;omega)) hm.ok (show (⟨#[]⟩ : ByteArray).size ≤ _ by decide) i6z hm.len).mono ?_
  rintro e w2 ⟨m2,i2,e2,u2,had2,rfl,ho2,hb2⟩
  obtain ⟨a2,c2,rfl⟩:=L3.own_form ho2
  have HD2:=hid had2
  have HO2:=hid ho2
  have HB2:=hid (belows HB.out hb2 HB.out.size)
  clear had2 ho2 hb2 hm
  go_wp2
  exact bodyPost_ret (v:=.tuple #[.slice a2 m2.length c2,.int .i64 (i2 : Nat),.int .i64 _]) (by simp [results,Tryz.results72,go_sem];try rfl) rfl ⟨m,i,0,HD.out,.inr ⟨rfl,m2,i2,_,_,HD2.out,rfl,L3.own_mono HO2.out HB.out.size⟩,HB2.out⟩
 ·exact bodyPost_ret (v:=.tuple #[.slice a1 m.length c1,.int .i64 (i : Nat),.int .i64 _]) (by simp [results,Tryz.results72,go_sem];try rfl) rfl ⟨m,i,_,HD.out,.inl ⟨HZ.out,_,rfl,HO.out⟩,HB.out⟩
end Go.Proofs.YtnojgiflgmnjlaaGreatDoor
namespace Go.Proofs.YtnojgiflgmnjlaaGreatDoor
open Go Go.RowKit
theorem least_of {p : Nat → Prop} : ∀ n,p n → ∃ m,p m ∧ ∀ k,k < m → ¬ p k:=by
 intro n
 induction n using Nat.strongRecOn with
 | _ n ih =>
  intro hn
  by_cases h : ∃ k,k < n ∧ p k
  ·obtain ⟨k,hk,hp⟩:=h
   exact ih k hk hp
  ·exact ⟨n,hn,fun k hk hp=>h ⟨k,hk,hp⟩⟩
theorem good_plain {x : UInt8} (h : L2.Ds.goodC x = true) : 1 ≤ x.toNat ∧ x.toNat ≤ 127:=by
 unfold L2.Ds.goodC at h
 simp only [Bool.and_eq_true,decide_eq_true_eq] at h
 omega
theorem parts_plain : ∀ l : List UInt8,(∀ p ∈ L2.Ds.splitC 47 l,p.all L2.Ds.goodC = true) → L3.Cp.plainB l = true
 | [],_=>rfl
 | x :: l,h=>by
  unfold L2.Ds.splitC at h
  unfold L3.Cp.plainB
  rw [List.all_cons,Bool.and_eq_true,Bool.and_eq_true,decide_eq_true_eq,decide_eq_true_eq]
  by_cases hx : x = 47
  ·rw [if_pos hx] at h
   subst hx
   exact ⟨by decide,parts_plain l fun p hp=>h p (List.mem_cons_of_mem _ hp)⟩
  ·rw [if_neg hx] at h
   cases hs : L2.Ds.splitC 47 l with
   | nil=>exact absurd hs (L2.Ds.splitC_ne _ _)
   | cons y t =>
    rw [hs] at h
    have h1:=h (x :: y) List.mem_cons_self
    rw [List.all_cons,Bool.and_eq_true] at h1
    refine ⟨good_plain h1.1,parts_plain l fun p hp=>?_⟩
    rw [hs] at hp
    rcases List.mem_cons.1 hp with rfl|hp
    ·exact h1.2
    ·exact h p (List.mem_cons_of_mem _ hp)
theorem name_plain {a : ByteArray} (h : L2.nameE (L2.Ds.bl a) = 0) : a.size ≤ 255 ∧ L3.Cp.plainB (L3.Cp.bl a) = true:=by
 unfold L2.nameE at h
 split at h
 ·cases h
 ·rename_i h1
  split at h
  ·rename_i h2
   refine ⟨?_,parts_plain _ fun p hp=>?_⟩
   ·have : (L2.Ds.bl a).length = a.size:=by unfold L2.Ds.bl;exact Array.length_toList
    omega
   ·unfold L2.Ds.classB at h2
    have h3:=List.all_eq_true.1 h2 p hp
    unfold L2.Ds.partB at h3
    rw [Bool.and_eq_true] at h3
    exact h3.2
  ·cases h
theorem text_out {a : ByteArray} (h : a.size ≤ 255 ∧ L3.Cp.plainB (L3.Cp.bl a) = true) : L3.ceOut ⟨1,a,0,0,0⟩ = 0:=by
 unfold L3.ceOut
 rw [if_neg (by rintro (h1|h1);(·cases h1);exact h1 rfl),if_neg (by rintro (h1|h1);(·exact absurd h.1 (Nat.not_le.2 h1));(·rw [h.2] at h1;cases h1))]
theorem class_out {i : Nat} (h : i < 65536) : L3.ceOut ⟨7,⟨#[]⟩,0,(i : Nat),0⟩ = 0:=by
 unfold L3.ceOut
 rw [if_neg,if_neg (by rintro (h1|h1);(·exact absurd h1 (by show ¬ 255 < (⟨#[]⟩ : ByteArray).size;decide));cases h1)]
 rintro (h1|h1)
 ·cases h1
 ·refine h1 ?_
  show L3.Cp.C.mk 7 _ _ (L3.uns (i : Int) 2) _ = _
  rw [show L3.uns (i : Int) 2 = (i : Int) by unfold L3.uns;rw [if_neg (by omega)];omega]
  rfl
theorem ad_ok {l : List L3.Cp.C} {c : L3.Cp.C} (h : L3.CkIs l 0) (hc : L3.ceOut c = 0) (hn : l.length ≤ 1000) : ∃ m i,L3.AdIs l c m i 0 ∧ m.length ≤ l.length + 3 ∧ i < m.length ∧ L3.CkIs m 0:=by
 have fin : ∀ m i,L3.AdIs l c m i 0 → m.length ≤ l.length + 3 → ∃ m i,L3.AdIs l c m i 0 ∧ m.length ≤ l.length + 3 ∧ i < m.length ∧ L3.CkIs m 0:=fun m i ha hl=>by
  obtain ⟨-,h2,-,h4,-⟩:=L3.ad_good ha
  exact ⟨m,i,ha,hl,(List.getElem?_eq_some_iff.1 h2).1,h4⟩
 by_cases hf : ∃ r,1 ≤ r ∧ c.t ≠ 0 ∧ l[r]? = some c
 ·obtain ⟨r,hr⟩:=hf
  obtain ⟨m,⟨h1,h2,h3⟩,hm⟩:=least_of (p:=fun r=>1 ≤ r ∧ c.t ≠ 0 ∧ l[r]? = some c) r hr
  exact fin l m (.inr ⟨h,.inr ⟨hc,.inl ⟨.inr ⟨rfl,h1,h2,h3,fun j hj hjm e=>hm j hjm ⟨hj,h2,e⟩⟩,rfl,rfl⟩⟩⟩) (by omega)
 ·have hh : (L3.hdP l).length ≤ l.length + 1:=by
   unfold L3.hdP
   split <;> simp
  have hl : (L3.appE (L3.hdP l) c).length ≤ l.length + 3:=by
   unfold L3.appE
   split <;> simp <;> omega
  exact fin (L3.appE (L3.hdP l) c) (L3.hdP l).length (.inr ⟨h,.inr ⟨hc,.inr ⟨.inl ⟨rfl,rfl,fun j h1 h2 h3=>hf ⟨j,h1,h2,h3⟩⟩,.inr ⟨by omega,rfl,rfl,rfl⟩⟩⟩⟩) hl
theorem new_pool {a b : ByteArray} (ha : L2.nameE (L2.Ds.bl a) = 0) (hb : L2.nameE (L2.Ds.bl b) = 0) : ∃ m0 i0 m1 i1 m2 i2 m3 i3 m4 i4,L3.AdIs [] Cf.codeC m0 i0 0 ∧ L3.AdIs m0 ⟨1,a,0,0,0⟩ m1 i1 0 ∧ L3.AdIs m1 ⟨7,⟨#[]⟩,0,(i1 : Nat),0⟩ m2 i2 0 ∧ L3.AdIs m2 ⟨1,b,0,0,0⟩ m3 i3 0 ∧ L3.AdIs m3 ⟨7,⟨#[]⟩,0,(i3 : Nat),0⟩ m4 i4 0:=by
 obtain ⟨m0,i0,h0,l0,-,c0⟩:=ad_ok (l:=[]) (c:=Cf.codeC) (.inr ⟨by simp,.inl ⟨rfl,fun i hi=>by simp at hi⟩⟩) (by decide) (by simp)
 simp only [List.length_nil] at l0
 obtain ⟨m1,i1,h1,l1,k1,c1⟩:=ad_ok c0 (text_out (name_plain ha)) (by omega)
 obtain ⟨m2,i2,h2,l2,-,c2⟩:=ad_ok c1 (class_out (i:=i1) (by omega)) (by omega)
 obtain ⟨m3,i3,h3,l3,k3,c3⟩:=ad_ok c2 (text_out (name_plain hb)) (by omega)
 obtain ⟨m4,i4,h4,-⟩:=ad_ok c3 (class_out (i:=i3) (by omega)) (by omega)
 exact ⟨m0,i0,m1,i1,m2,i2,m3,i3,m4,i4,h0,h1,h2,h3,h4⟩
end Go.Proofs.YtnojgiflgmnjlaaGreatDoor
namespace Go.Proofs.YtnojgiflgmnjlaaGreatDoor
open Go Go.RowKit
theorem box_put {w : World} {b : Nat} {cs : Array Value} {T : TypeId} (h : w.heap[b]? = some (.cells cs T (0,0))) (i : Nat) (u : Value) : (w.setCell ⟨b,i,none⟩ u).heap[b]? = some (.cells (cs.setIfInBounds i u) T (0,0)):=by
 obtain ⟨hlt,hk⟩:=Array.getElem?_eq_some_iff.1 h
 show (w.heap.modify b _)[b]? = _
 rw [Array.getElem?_eq_getElem (by rw [Array.size_modify];exact hlt),Array.getElem_modify_self,hk]
 rfl
theorem pool_nil : PoolR []:=⟨(fun x hx=>nomatch hx),(by simp)⟩
set_option maxHeartbeats 2000000 in
theorem rnew_any (a b : ByteArray) (w : World) : Calls Tryz.prog 31 #[.string a,.string b] w (NwPost a b w):=by
 have HA:=hid (fun W=>L2.rclassName_any a W)
 have HB:=hid (fun W=>L2.rclassName_any b W)
 by_cases ha : L2.nameE (L2.Ds.bl a) = 0
 ·by_cases hb : L2.nameE (L2.Ds.bl b) = 0
  ·rw [ha] at HA
   rw [hb] at HB
   have HNa:=hid ha
   have HNb:=hid hb
   clear ha hb
   go_enter Tryz.func31,Tryz.ntmps31
   go_wp2_with fail
   refine (HA.out _).mono ?_
   rintro e w1 ⟨rfl,hb1⟩
   obtain ⟨bN,hzN,B1⟩:=belows1 hb1
   have BN1:=hid bN
   have HB1:=hid B1
   clear hb1 bN B1
   go_wp2_with fail
   refine (HB.out _).mono ?_
   rintro e w2 ⟨rfl,hb2⟩
   have BN2:=hid (BN1.out.below hb2 BN1.out.sz)
   have HB2:=hid (belows HB1.out hb2 HB1.out.size)
   clear hb2
   go_wp2_with fail
   obtain ⟨m0,i0,m1,i1,m2,i2,m3,i3,m4,i4,h0,h1,h2,h3,h4⟩:=new_pool HNa.out HNb.out
   have P0:=hid (pool_nil.add (c:=Cf.codeC) ⟨by decide,i6z⟩ h0)
   have P1:=hid (P0.out.add (c:=⟨1,a,0,0,0⟩) ⟨name_len HNa.out,i6z⟩ h1)
   have P2:=hid (P1.out.add (c:=⟨7,⟨#[]⟩,0,(i1 : Nat),0⟩) ⟨show (⟨#[]⟩ : ByteArray).size ≤ _ by decide,i6z⟩ h2)
   have A0:=hid h0
   have A1:=hid h1
   have A2:=hid h2
   have A3:=hid h3
   have A4:=hid h4
   clear h0 h1 h2 h3 h4
   obtain ⟨W0,hW0⟩ : ∃ W0,W0 = w2.alloc (.cells #[.int .i64 0,.int .i64 52,.slice none 0 0,.int .i64 33,.int .i64 0,.int .i64 0,.slice none 0 0,.slice none 0 0] 26):=⟨_,rfl⟩
   rw [← hW0]
   have hb20 : Below w2.heap.size w2 W0:=by rw [hW0];exact (Below.refl _ _).alloc (Nat.le_refl _) _
   have BX0:=hid (show L3.BX W0 w2.heap.size #[.int .i64 0,.int .i64 52,.slice none 0 0,.int .i64 33,.int .i64 0,.int .i64 0,.slice none 0 0,.slice none 0 0] 26 by rw [hW0];exact L3.BX.new _ _ _)
   have BZ0:=hid (BN2.out.below hb20 BN2.out.sz)
   have HB0:=hid (belows HB2.out hb20 HB2.out.size)
   have hne : w.heap.size < w2.heap.size:=BN2.out.sz
   have HNe:=hid hne
   have hz0 : w2.heap.size < W0.heap.size:=BX0.out.sz
   clear hW0 hb20 BN2 HB2 BN1 HB1
   refine (rutf0_any [] Cf.codeS _ W0 ⟨rfl,by simp,.inl ⟨rfl,_,_,rfl⟩⟩ pool_nil (by decide)).mono ?_
   rintro e w3 ⟨m0',i0',er0,v0,had,rfl,hO,hb3⟩
   obtain ⟨rfl,rfl,rfl⟩:=A0.out.det had
   obtain ⟨a0,c0,rfl⟩:=L3.own_form hO
   have bX:=BX0.out.below hb3 BX0.out.sz
   have bZ:=BZ0.out.below hb3 BZ0.out.sz
   have HB3:=hid (belows HB0.out hb3 HB0.out.size)
   have x0:=bX.cell 0
   have x1:=bX.cell 1
   have x2:=bX.cell 2
   have x3:=bX.cell 3
   have x4:=bX.cell 4
   have x5:=bX.cell 5
   have x6:=bX.cell 6
   have x7:=bX.cell 7
   simp at x0 x1 x2 x3 x4 x5 x6 x7
   have g2:=bX.frozen 2
   have g4:=bX.frozen 4
   have g5:=bX.frozen 5
   have HO3:=hid hO
   have BX3:=hid bX
   have BZ3:=hid bZ
   clear had hO hb3 bX bZ BX0 BZ0 HB0
   go_wp2_with fail
   obtain ⟨W4,hW4⟩ : ∃ W4,W4 = w3.setCell ⟨w2.heap.size,2,none⟩ (.slice a0 m0.length c0):=⟨_,rfl⟩
   rw [← hW4]
   have BX4:=hid (show L3.BX W4 w2.heap.size #[.int .i64 0,.int .i64 52,.slice a0 m0.length c0,.int .i64 33,.int .i64 0,.int .i64 0,.slice none 0 0,.slice none 0 0] 26 by rw [hW4];exact box_put BX3.out 2 _)
   have hg4 : w3.grownBy W4 (some w2.heap.size):=by rw [hW4];exact L3.set_grown _ _ _ _
   have BZ4:=hid (L3.BX.grown BZ3.out hg4 (fun e=>by have:=Option.some.inj e;omega))
   have HO4:=hid (Kit.owns_grown HO3.out hg4 hz0)
   have HB4:=hid (show Below w.heap.size w W4 by rw [hW4];exact HB3.out.setCell (p:=⟨w2.heap.size,2,none⟩) (Nat.le_of_lt hne) _)
   clear x0 x1 x2 x3 x4 x5 x6 x7 g2 g4 g5
   clear hW4 hg4 BX3 BZ3 HO3 HB3
   refine (rutf1_any m0 a _ W4 (Kit.isS_of_owns HO4.out (by have:=P0.out.len;omega)) P0.out (name_len HNa.out)).mono ?_
   rintro e w5 ⟨m1',i1',er1,had1,hu,hb5⟩
   obtain ⟨rfl,rfl,rfl⟩:=A1.out.det had1
   rcases hu with ⟨hx,-⟩|⟨-,m2',i2',e2',v2,had2,rfl,hO⟩
   ·exact absurd rfl hx
   obtain ⟨rfl,rfl,rfl⟩:=A2.out.det had2
   obtain ⟨a2,c2,rfl⟩:=L3.own_form hO
   have hz4 : w2.heap.size < W4.heap.size:=BX4.out.sz
   have bX:=BX4.out.below hb5 BX4.out.sz
   have bZ:=BZ4.out.below hb5 BZ4.out.sz
   have HB5:=hid (belows HB4.out hb5 HB4.out.size)
   have x0:=bX.cell 0
   have x1:=bX.cell 1
   have x2:=bX.cell 2
   have x3:=bX.cell 3
   have x4:=bX.cell 4
   have x5:=bX.cell 5
   have x6:=bX.cell 6
   have x7:=bX.cell 7
   simp at x0 x1 x2 x3 x4 x5 x6 x7
   have g2:=bX.frozen 2
   have g4:=bX.frozen 4
   have g5:=bX.frozen 5
   have HO5:=hid hO
   have BX5:=hid bX
   have BZ5:=hid bZ
   clear had1 had2 hO hb5 bX bZ BX4 BZ4 HB4 HO4
   go_wp2_with fail
   obtain ⟨W6,hW6⟩ : ∃ W6,W6 = (w5.setCell ⟨w2.heap.size,2,none⟩ (.slice a2 m2.length c2)).setCell ⟨w2.heap.size,4,none⟩ (.int .i64 (i2 : Nat)):=⟨_,rfl⟩
   rw [← hW6]
   have BX6:=hid (show L3.BX W6 w2.heap.size #[.int .i64 0,.int .i64 52,.slice a2 m2.length c2,.int .i64 33,.int .i64 (i2 : Nat),.int .i64 0,.slice none 0 0,.slice none 0 0] 26 by rw [hW6];exact box_put (box_put BX5.out 2 _) 4 _)
   have hg6 : w5.grownBy W6 (some w2.heap.size):=by rw [hW6];exact L3.grown_trans (L3.set_grown _ _ _ _) (L3.set_grown _ _ _ _)
   have BZ6:=hid (L3.BX.grown BZ5.out hg6 (fun e=>by have:=Option.some.inj e;omega))
   have HO6:=hid (Kit.owns_grown HO5.out hg6 hz4)
   have HB6:=hid (show Below w.heap.size w W6 by rw [hW6];exact (HB5.out.setCell (p:=⟨w2.heap.size,2,none⟩) (Nat.le_of_lt hne) _).setCell (p:=⟨w2.heap.size,4,none⟩) (Nat.le_of_lt hne) _)
   clear x0 x1 x2 x3 x4 x5 x6 x7 g2 g4 g5
   clear hW6 hg6 BX5 BZ5 HO5 HB5
   refine (rutf1_any m2 b _ W6 (Kit.isS_of_owns HO6.out (by have:=P2.out.len;omega)) P2.out (name_len HNb.out)).mono ?_
   rintro e w7 ⟨m3',i3',er3,had3,hu,hb7⟩
   obtain ⟨rfl,rfl,rfl⟩:=A3.out.det had3
   rcases hu with ⟨hx,-⟩|⟨-,m4',i4',e4',v4,had4,rfl,hO⟩
   ·exact absurd rfl hx
   obtain ⟨rfl,rfl,rfl⟩:=A4.out.det had4
   obtain ⟨a4,c4,rfl⟩:=L3.own_form hO
   have hz6 : w2.heap.size < W6.heap.size:=BX6.out.sz
   have bX:=BX6.out.below hb7 BX6.out.sz
   have bZ:=BZ6.out.below hb7 BZ6.out.sz
   have HB7:=hid (belows HB6.out hb7 HB6.out.size)
   have x0:=bX.cell 0
   have x1:=bX.cell 1
   have x2:=bX.cell 2
   have x3:=bX.cell 3
   have x4:=bX.cell 4
   have x5:=bX.cell 5
   have x6:=bX.cell 6
   have x7:=bX.cell 7
   simp at x0 x1 x2 x3 x4 x5 x6 x7
   have g2:=bX.frozen 2
   have g4:=bX.frozen 4
   have g5:=bX.frozen 5
   have HO7:=hid hO
   have BX7:=hid bX
   have bN:=bZ
   have hzN2:=bN.sz
   (obtain ⟨n0,n1,n2,n3,n4,n5,n6,n7⟩:=bN.cells8;have f0:=bN.frozen 0;have f1:=bN.frozen 1;have f2:=bN.frozen 2;have f3:=bN.frozen 3;have f4:=bN.frozen 4;have f5:=bN.frozen 5;have f6:=bN.frozen 6;have f7:=bN.frozen 7)
   clear had3 had4 hO hb7 bX bZ BX6 BZ6 HB6 HO6
   go_wp2
   clear n0 n1 n2 n3 n4 n5 n6 n7 f0 f1 f2 f3 f4 f5 f6 f7 x0 x1 x2 x3 x4 x5 x6 x7 g2 g4 g5
   obtain ⟨W8,hW8⟩ : ∃ W8,W8 = (w7.setCell ⟨w2.heap.size,2,none⟩ (.slice a4 m4.length c4)).setCell ⟨w2.heap.size,5,none⟩ (.int .i64 (i4 : Nat)):=⟨_,rfl⟩
   rw [← hW8]
   have hg8 : w7.grownBy W8 (some w2.heap.size):=by rw [hW8];exact L3.grown_trans (L3.set_grown _ _ _ _) (L3.set_grown _ _ _ _)
   have bZ8:=L3.BX.grown bN hg8 (fun e=>by have:=Option.some.inj e;omega)
   have HO8:=Kit.owns_grown HO7.out hg8 hz6
   have bF:=put8 bZ8 rfl (.int .i64 0) (.int .i64 52) (.slice a4 m4.length c4) (.int .i64 33) (.int .i64 (i2 : Nat)) (.int .i64 (i4 : Nat)) (.slice none 0 0) (.slice none 0 0)
   have hgF:=grown8 W8 w.heap.size (.int .i64 0) (.int .i64 52) (.slice a4 m4.length c4) (.int .i64 33) (.int .i64 (i2 : Nat)) (.int .i64 (i4 : Nat)) (.slice none 0 0) (.slice none 0 0)
   have HOF:=Kit.owns_grown HO8 hgF (Nat.lt_trans hne hz6)
   have HBF:=(HB7.out.grown hg8 HB7.out.size (fun k e=>by have:=Option.some.inj e;omega)).grown hgF (Nat.le_of_lt bZ8.sz) (fun k e=>by have:=Option.some.inj e;omega)
   obtain ⟨F,hF⟩ : ∃ F,F = ((((((((W8).setCell ⟨w.heap.size,0,none⟩ (.int .i64 0)).setCell ⟨w.heap.size,1,none⟩ (.int .i64 52)).setCell ⟨w.heap.size,2,none⟩ (.slice a4 m4.length c4)).setCell ⟨w.heap.size,3,none⟩ (.int .i64 33)).setCell ⟨w.heap.size,4,none⟩ (.int .i64 (i2 : Nat))).setCell ⟨w.heap.size,5,none⟩ (.int .i64 (i4 : Nat))).setCell ⟨w.heap.size,6,none⟩ (.slice none 0 0)).setCell ⟨w.heap.size,7,none⟩ (.slice none 0 0):=⟨_,rfl⟩
   rw [← hF] at bF hgF HOF HBF ⊢
   clear bN hW8 hg8 bZ8 HO8 hgF hF
   have bN:=bF
   (obtain ⟨n0,n1,n2,n3,n4,n5,n6,n7⟩:=bN.cells8;have f0:=bN.frozen 0;have f1:=bN.frozen 1;have f2:=bN.frozen 2;have f3:=bN.frozen 3;have f4:=bN.frozen 4;have f5:=bN.frozen 5;have f6:=bN.frozen 6;have f7:=bN.frozen 7)
   refine bodyPost_ret (v:=.tuple #[.agg #[.int .i64 0,.int .i64 52,.slice a4 m4.length c4,.int .i64 33,.int .i64 (i2 : Nat),.int .i64 (i4 : Nat),.slice none 0 0,.slice none 0 0],.int .i64 0]) (by simp [results,Tryz.results31,go_sem,n0,n1,n2,n3,n4,n5,n6,n7]) rfl ⟨⟨0,52,m4,33,i2,i4,[],[]⟩,0,_,?_,rfl,⟨_,_,_,rfl,Kit.isS_of_owns HOF (show m4.length ≤ _ by have:=(ad_sz A4.out (.inl rfl)).1;omega),nil_ms _,nil_ms _⟩,ad_sz A4.out (.inl rfl),HBF⟩
   unfold NwIs
   rw [if_neg (by rw [HNa.out];decide),if_neg (by rw [HNb.out];decide)]
   exact ⟨m0,i0,0,m1,i1,0,m2,i2,0,m3,i3,0,m4,i4,0,.inr ⟨rfl,A0.out⟩,.inr ⟨rfl,A1.out⟩,.inr ⟨rfl,A2.out⟩,.inr ⟨rfl,A3.out⟩,.inr ⟨rfl,A4.out⟩,by rw [if_neg (by decide)];exact ⟨rfl,rfl⟩⟩
  ·obtain ⟨eb,hE⟩ : ∃ eb,L2.nameE (L2.Ds.bl b) = eb:=⟨_,rfl⟩
   have HNa:=hid ha
   have HE:=hid hE
   rw [ha] at HA
   rw [hE] at HB hb
   have hd : (eb != 0) = true:=by simpa using hb
   have HZ:=hid hb
   clear ha hb hE
   go_enter Tryz.func31,Tryz.ntmps31
   go_wp2_with fail
   refine (HA.out _).mono ?_
   rintro e w1 ⟨rfl,hb1⟩
   obtain ⟨bN,hzN,B1⟩:=belows1 hb1
   have BN1:=hid bN
   have HB1:=hid B1
   clear hb1 bN B1
   go_wp2_with fail
   refine (HB.out _).mono ?_
   rintro e w2 ⟨rfl,hb2⟩
   have bN:=BN1.out.below hb2 BN1.out.sz
   have B2:=belows HB1.out hb2 HB1.out.size
   have hzN2:=bN.sz
   (obtain ⟨n0,n1,n2,n3,n4,n5,n6,n7⟩:=bN.cells8;have f0:=bN.frozen 0;have f1:=bN.frozen 1;have f2:=bN.frozen 2;have f3:=bN.frozen 3;have f4:=bN.frozen 4;have f5:=bN.frozen 5;have f6:=bN.frozen 6;have f7:=bN.frozen 7)
   clear hb2
   go_wp2
   refine bodyPost_ret (v:=.tuple #[.agg #[.int .i64 0,.int .i64 0,.slice none 0 0,.int .i64 0,.int .i64 0,.int .i64 0,.slice none 0 0,.slice none 0 0],.int .i64 eb]) (by simp [results,Tryz.results31,go_sem,n0,n1,n2,n3,n4,n5,n6,n7]) rfl ⟨_,eb,_,?_,rfl,k0_reads _,⟨by simp [Cf.K0],fun x hx=>by cases hx⟩,BLw⟩
   unfold NwIs
   rw [if_neg (by rw [HNa.out];decide),if_pos (by rw [HE.out];exact HZ.out)]
   exact ⟨rfl,HE.out.symm⟩
 ·obtain ⟨ea,hE⟩ : ∃ ea,L2.nameE (L2.Ds.bl a) = ea:=⟨_,rfl⟩
  have HE:=hid hE
  rw [hE] at HA ha
  have hd : (ea != 0) = true:=by simpa using ha
  have HZ:=hid ha
  clear ha hE
  go_enter Tryz.func31,Tryz.ntmps31
  go_wp2_with fail
  refine (HA.out _).mono ?_
  rintro e w1 ⟨rfl,hb1⟩
  obtain ⟨bN,hzN,B2⟩:=belows1 hb1
  have hzN2:=bN.sz
  (obtain ⟨n0,n1,n2,n3,n4,n5,n6,n7⟩:=bN.cells8;have f0:=bN.frozen 0;have f1:=bN.frozen 1;have f2:=bN.frozen 2;have f3:=bN.frozen 3;have f4:=bN.frozen 4;have f5:=bN.frozen 5;have f6:=bN.frozen 6;have f7:=bN.frozen 7)
  clear hb1
  go_wp2
  refine bodyPost_ret (v:=.tuple #[.agg #[.int .i64 0,.int .i64 0,.slice none 0 0,.int .i64 0,.int .i64 0,.int .i64 0,.slice none 0 0,.slice none 0 0],.int .i64 ea]) (by simp [results,Tryz.results31,go_sem,n0,n1,n2,n3,n4,n5,n6,n7]) rfl ⟨_,ea,_,?_,rfl,k0_reads _,⟨by simp [Cf.K0],fun x hx=>by cases hx⟩,BLw⟩
  unfold NwIs
  rw [if_pos (by rw [HE.out];exact HZ.out)]
  exact ⟨rfl,HE.out.symm⟩
end Go.Proofs.YtnojgiflgmnjlaaGreatDoor
namespace Go.Proofs.YtnojgiflgmnjlaaGreatDoor
open Go Go.RowKit
def M0V : Value:=.agg #[.int .i64 0,.int .i64 0,.int .i64 0,.int .i64 0,.int .i64 0,.slice none 0 0,.slice none 0 0]
def WhPost (c : Cf.Cl) (m : Cf.Mb) (fv mv cv hv : Value) (a b : ByteArray) (w : World) (e : Ending) (w' : World) : Prop :=
 ∃ l1 i1 e1 l2 i2 e2,AdS c.pool 0 ⟨1,a,0,0,0⟩ l1 i1 e1 ∧ AdS l1 e1 ⟨1,b,0,0,0⟩ l2 i2 e2 ∧
  ((e2 ≠ 0 ∧ e = .returned (.tuple #[K0V,M0V,.int .i64 e2])) ∨
   (e2 = 0 ∧ PoolR l2 ∧ ∃ pa pc,e = .returned (.tuple #[.agg #[.int .i64 c.mi,.int .i64 c.ma,.slice pa l2.length pc,.int .i64 c.ac,.int .i64 c.th,.int .i64 c.su,fv,mv],mbV { m with nm:=(i1 : Nat),ds:=(i2 : Nat) } cv hv,.int .i64 0]) ∧ L3.OwnC w' w.heap.size (.slice pa l2.length pc) l2)) ∧
  Below w.heap.size w w'
theorem four {w : World} {c0 c1 c2 c3 : Array Value} {T0 T1 T2 T3 : TypeId} {W : World} (h : W = (((w.alloc (.cells c0 T0)).alloc (.cells c1 T1)).alloc (.cells c2 T2)).alloc (.cells c3 T3)) :
  L3.BX W w.heap.size c0 T0 ∧ L3.BX W (w.heap.size + 1) c1 T1 ∧ L3.BX W (w.heap.size + 1 + 1) c2 T2 ∧ L3.BX W (w.heap.size + 1 + 1 + 1) c3 T3 ∧ W.heap.size = w.heap.size + 4 ∧ Below w.heap.size w W:=by
 subst h
 have b0:=BX.al (BX.al (BX.al (L3.BX.new w c0 T0) (.cells c1 T1)) (.cells c2 T2)) (.cells c3 T3)
 have b1:=BX.al (BX.al (L3.BX.new (w.alloc (.cells c0 T0)) c1 T1) (.cells c2 T2)) (.cells c3 T3)
 have b2:=BX.al (L3.BX.new ((w.alloc (.cells c0 T0)).alloc (.cells c1 T1)) c2 T2) (.cells c3 T3)
 have b3:=L3.BX.new (((w.alloc (.cells c0 T0)).alloc (.cells c1 T1)).alloc (.cells c2 T2)) c3 T3
 simp only [World.size_alloc] at b1 b2 b3
 exact ⟨b0,b1,b2,b3,by simp only [World.size_alloc],BLw⟩
theorem put15 {W : World} {r : Nat} {x8 x7 : Array Value} {T8 T7 : TypeId} (hR : L3.BX W r x8 T8) (h8 : x8.size = 8) (hS : L3.BX W (r + 1) x7 T7) (h7 : x7.size = 7) (a0 a1 a2 a3 a4 a5 a6 a7 b0 b1 b2 b3 b4 b5 b6 : Value) :
  ∃ X,X = (((((((((((((((W.setCell ⟨r,0,none⟩ a0).setCell ⟨r,1,none⟩ a1).setCell ⟨r,2,none⟩ a2).setCell ⟨r,3,none⟩ a3).setCell ⟨r,4,none⟩ a4).setCell ⟨r,5,none⟩ a5).setCell ⟨r,6,none⟩ a6).setCell ⟨r,7,none⟩ a7).setCell ⟨r + 1,0,none⟩ b0).setCell ⟨r + 1,1,none⟩ b1).setCell ⟨r + 1,2,none⟩ b2).setCell ⟨r + 1,3,none⟩ b3).setCell ⟨r + 1,4,none⟩ b4).setCell ⟨r + 1,5,none⟩ b5).setCell ⟨r + 1,6,none⟩ b6) ∧ L3.BX X r #[a0,a1,a2,a3,a4,a5,a6,a7] T8 ∧ L3.BX X (r + 1) #[b0,b1,b2,b3,b4,b5,b6] T7 ∧ (∀ {w : World} lo,lo ≤ r → Below lo w W → Below lo w X) ∧ (∀ {base : Nat} {e : TypeId} {size : Nat} {v : Value} {n : Nat} {xs : List Value},W.ownsRow base e size v n xs → r + 1 < base → X.ownsRow base e size v n xs):=by
 have g8:=grown8 W r a0 a1 a2 a3 a4 a5 a6 a7
 have g7:=grown7 ((((((((W.setCell ⟨r,0,none⟩ a0).setCell ⟨r,1,none⟩ a1).setCell ⟨r,2,none⟩ a2).setCell ⟨r,3,none⟩ a3).setCell ⟨r,4,none⟩ a4).setCell ⟨r,5,none⟩ a5).setCell ⟨r,6,none⟩ a6).setCell ⟨r,7,none⟩ a7) (r + 1) b0 b1 b2 b3 b4 b5 b6
 have k8:=(put8 hR h8 a0 a1 a2 a3 a4 a5 a6 a7).grown g7 (fun e=>by (have:=Option.some.inj e;omega))
 have k7:=put7 (hS.grown g8 (fun e=>by (have:=Option.some.inj e;omega))) h7 b0 b1 b2 b3 b4 b5 b6
 refine ⟨_,rfl,k8,k7,fun lo hlo hb=>nwB (nwB hb g8 ⟨hlo,Nat.le_trans hlo (Nat.le_of_lt hR.sz)⟩) g7 ⟨by omega,Nat.le_trans hlo (Nat.le_trans (Nat.le_of_lt hR.sz) g8.size)⟩,fun ho hr=>Kit.owns_grown (Kit.owns_grown ho g8 (by omega)) g7 (by omega)⟩
set_option maxHeartbeats 4000000 in
theorem rwith_at (mi ma ac th su : Int) (P : List L3.Cp.C) (fs ms : List Cf.Mb) (mac mnm mds mst mlc : Int) (co : List UInt8) (hs9 : List Cf.Hn) (pa fa ma2 xa ya : Option Addr) (pc fc mc xc yc : Nat) (a b : ByteArray) (w : World) (hp : Kit.IsS 5 w (.slice pa P.length pc) P.length (P.flatMap L3.cL)) (hl : PoolR P) (ha : a.size ≤ 140737488355328) (hb : b.size ≤ 140737488355328) :
  Calls Tryz.prog 66 #[.agg #[.int .i64 mi,.int .i64 ma,.slice pa P.length pc,.int .i64 ac,.int .i64 th,.int .i64 su,.slice fa fs.length fc,.slice ma2 ms.length mc],.string a,.string b,.agg #[.int .i64 mac,.int .i64 mnm,.int .i64 mds,.int .i64 mst,.int .i64 mlc,.slice xa co.length xc,.slice ya hs9.length yc]] w (WhPost ⟨mi,ma,P,ac,th,su,fs,ms⟩ ⟨mac,mnm,mds,mst,mlc,co,hs9⟩ (.slice fa fs.length fc) (.slice ma2 ms.length mc) (.slice xa co.length xc) (.slice ya hs9.length yc) a b w):=by
 have HP:=hid hp
 have HL:=hid hl
 have HA:=hid ha
 have HB:=hid hb
 clear hp hl ha hb
 go_enter Tryz.func66,Tryz.ntmps66
 go_wp2_with fail
 obtain ⟨W1,hW1⟩ : ∃ W1,W1 = ((((w.alloc (.cells #[.int .i64 mi,.int .i64 ma,.slice pa P.length pc,.int .i64 ac,.int .i64 th,.int .i64 su,.slice fa fs.length fc,.slice ma2 ms.length mc] 26)).alloc (.cells #[.int .i64 mac,.int .i64 mnm,.int .i64 mds,.int .i64 mst,.int .i64 mlc,.slice xa co.length xc,.slice ya hs9.length yc] 42)).alloc (.cells #[.int .i64 0,.int .i64 0,.slice none 0 0,.int .i64 0,.int .i64 0,.int .i64 0,.slice none 0 0,.slice none 0 0] 26)).alloc (.cells #[.int .i64 0,.int .i64 0,.int .i64 0,.int .i64 0,.int .i64 0,.slice none 0 0,.slice none 0 0] 42)):=⟨_,rfl⟩
 obtain ⟨bC,bM,bR,bS,hzW,B1⟩:=four hW1
 rw [← hW1]
 have HB1:=hid B1
 have BC1:=hid bC
 have BM1:=hid bM
 have BR1:=hid bR
 have BS1:=hid bS
 clear hW1 bC bM bR bS B1
 refine (rutf0_any P a _ W1 (HP.out.below HB1.out (Nat.le_refl _)) HL.out HA.out).mono ?_
 rintro e w2 ⟨l1,i1,e1,v1,had,rfl,hO,hb2⟩
 obtain ⟨a1,c1,rfl⟩:=L3.own_form hO
 have hz2:=hb2.size
 have bC:=BC1.out.below hb2 BC1.out.sz
 have bM:=BM1.out.below hb2 BM1.out.sz
 have bR:=BR1.out.below hb2 BR1.out.sz
 have bS:=BS1.out.below hb2 BS1.out.sz
 have B2:=belows HB1.out hb2 HB1.out.size
 have k2:=bC.cell 2;have fk2:=bC.frozen 2;have m1:=bM.cell 1;have fm1:=bM.frozen 1;simp at k2 m1
 have HAd:=hid had
 by_cases hz : e1 = 0
 ·subst hz
  have P1:=hid (HL.out.add ⟨HA.out,i6z⟩ HAd.out)
  have hOh:=hid hO
  clear had hO
  go_wp2_with fail
  clear k2 fk2 m1 fm1
  have hO:=hOh.out
  clear hOh
  have g1:=L3.set_grown w2 w.heap.size 2 (.slice a1 l1.length c1)
  have g2:=L3.set_grown (w2.setCell ⟨w.heap.size,2,none⟩ (.slice a1 l1.length c1)) (w.heap.size + 1) 1 (.int .i64 (i1 : Nat))
  have bC:=(bC.set 2 (.slice a1 l1.length c1)).grown g2 (fun e=>by (have:=Option.some.inj e;omega))
  have bM:=(bM.grown g1 (fun e=>by (have:=Option.some.inj e;omega))).set 1 (.int .i64 (i1 : Nat))
  have bR:=(bR.grown g1 (fun e=>by (have:=Option.some.inj e;omega))).grown g2 (fun e=>by (have:=Option.some.inj e;omega))
  have bS:=(bS.grown g1 (fun e=>by (have:=Option.some.inj e;omega))).grown g2 (fun e=>by (have:=Option.some.inj e;omega))
  have hO:=Kit.owns_grown (Kit.owns_grown hO g1 (by omega)) g2 (by omega)
  have B2:=nwB (nwB B2 g1 ⟨Nat.le_refl _,B2.size⟩) g2 ⟨by omega,by rw [World.size_setCell];exact B2.size⟩
  obtain ⟨X1,hX1⟩ : ∃ X,X = ((w2.setCell ⟨w.heap.size,2,none⟩ (.slice a1 l1.length c1)).setCell ⟨w.heap.size + 1,1,none⟩ (.int .i64 (i1 : Nat))):=⟨_,rfl⟩
  rw [← hX1] at bC bM bR bS hO B2 ⊢
  simp only [List.setIfInBounds_toArray,List.set_cons_zero,List.set_cons_succ] at bC bM
  clear hX1 g1 g2
  have HB2:=hid B2
  have BC2:=hid bC
  have BM2:=hid bM
  have BR2:=hid bR
  have BS2:=hid bS
  have HO2:=hid hO
  have hz3:=bS.sz
  clear bC bM bR bS B2 hO hb2 BC1 BM1 BR1 BS1 HB1
  refine (rutf0_any l1 b _ X1 (Kit.isS_of_owns HO2.out (by have:=P1.out.len;omega)) P1.out HB.out).mono ?_
  rintro e w3 ⟨l2,i2,e2,v2,had2,rfl,hO,hb3⟩
  obtain ⟨a2,c2,rfl⟩:=L3.own_form hO
  have hz4:=hb3.size
  have bC:=BC2.out.below hb3 BC2.out.sz
  have bM:=BM2.out.below hb3 BM2.out.sz
  have bR:=BR2.out.below hb3 BR2.out.sz
  have bS:=BS2.out.below hb3 BS2.out.sz
  have B2:=belows HB2.out hb3 HB2.out.size
  have k2:=bC.cell 2;have fk2:=bC.frozen 2;have m2:=bM.cell 2;have fm2:=bM.frozen 2;simp at k2 m2
  have HAd2:=hid had2
  by_cases hz : e2 = 0
  ·subst hz
   have P2:=hid (P1.out.add ⟨HB.out,i6z⟩ HAd2.out)
   have hOh:=hid hO
   clear had2 hO hb3
   go_wp2_with fail
   clear k2 fk2 m2 fm2
   have hO:=hOh.out
   clear hOh
   have g1:=L3.set_grown w3 w.heap.size 2 (.slice a2 l2.length c2)
   have g2:=L3.set_grown (w3.setCell ⟨w.heap.size,2,none⟩ (.slice a2 l2.length c2)) (w.heap.size + 1) 2 (.int .i64 (i2 : Nat))
   have bC:=(bC.set 2 (.slice a2 l2.length c2)).grown g2 (fun e=>by (have:=Option.some.inj e;omega))
   have bM:=(bM.grown g1 (fun e=>by (have:=Option.some.inj e;omega))).set 2 (.int .i64 (i2 : Nat))
   have bR:=(bR.grown g1 (fun e=>by (have:=Option.some.inj e;omega))).grown g2 (fun e=>by (have:=Option.some.inj e;omega))
   have bS:=(bS.grown g1 (fun e=>by (have:=Option.some.inj e;omega))).grown g2 (fun e=>by (have:=Option.some.inj e;omega))
   have hO:=Kit.owns_grown (Kit.owns_grown hO g1 (by omega)) g2 (by omega)
   have B2:=nwB (nwB B2 g1 ⟨Nat.le_refl _,B2.size⟩) g2 ⟨by omega,by rw [World.size_setCell];exact B2.size⟩
   obtain ⟨X2,hX2⟩ : ∃ X,X = ((w3.setCell ⟨w.heap.size,2,none⟩ (.slice a2 l2.length c2)).setCell ⟨w.heap.size + 1,2,none⟩ (.int .i64 (i2 : Nat))):=⟨_,rfl⟩
   rw [← hX2] at bC bM bR bS hO B2 ⊢
   simp only [List.setIfInBounds_toArray,List.set_cons_zero,List.set_cons_succ] at bC bM
   clear hX2 g1 g2
   obtain ⟨k0,k1,k2,k3,k4,k5,k6,k7⟩:=bC.cells8;obtain ⟨m0,m1,m2,m3,m4,m5,m6⟩:=bM.cells7
   obtain ⟨r0,r1,r2,r3,r4,r5,r6,r7⟩:=bR.cells8;obtain ⟨s0,s1,s2,s3,s4,s5,s6⟩:=bS.cells7;have fr0:=bR.frozen 0;have fr1:=bR.frozen 1;have fr2:=bR.frozen 2;have fr3:=bR.frozen 3;have fr4:=bR.frozen 4;have fr5:=bR.frozen 5;have fr6:=bR.frozen 6;have fr7:=bR.frozen 7;have fs0:=bS.frozen 0;have fs1:=bS.frozen 1;have fs2:=bS.frozen 2;have fs3:=bS.frozen 3;have fs4:=bS.frozen 4;have fs5:=bS.frozen 5;have fs6:=bS.frozen 6
   have HO:=hid hO
   have HB9:=hid B2
   clear hO B2 BC2 BM2 BR2 BS2 HB2 HO2 bC bM
   go_region
   all_goals
    clear k0 k1 k2 k3 k4 k5 k6 k7 m0 m1 m2 m3 m4 m5 m6
    obtain ⟨X,hX,kR,kS,kB,kO⟩:=put15 bR rfl bS rfl (.int .i64 mi) (.int .i64 ma) (.slice a2 l2.length c2) (.int .i64 ac) (.int .i64 th) (.int .i64 su) (.slice fa fs.length fc) (.slice ma2 ms.length mc) (.int .i64 mac) (.int .i64 (i1 : Nat)) (.int .i64 (i2 : Nat)) (.int .i64 mst) (.int .i64 mlc) (.slice xa co.length xc) (.slice ya hs9.length yc)
    rw [← hX]
    clear hX r0 r1 r2 r3 r4 r5 r6 r7 s0 s1 s2 s3 s4 s5 s6 fr0 fr1 fr2 fr3 fr4 fr5 fr6 fr7 fs0 fs1 fs2 fs3 fs4 fs5 fs6 bR bS
    obtain ⟨r0,r1,r2,r3,r4,r5,r6,r7⟩:=kR.cells8;obtain ⟨s0,s1,s2,s3,s4,s5,s6⟩:=kS.cells7
    go_wp2
    have BX:=kB w.heap.size (by omega) HB9.out
    exact bodyPost_ret (v:=.tuple #[.agg #[.int .i64 mi,.int .i64 ma,.slice a2 l2.length c2,.int .i64 ac,.int .i64 th,.int .i64 su,.slice fa fs.length fc,.slice ma2 ms.length mc],.agg #[.int .i64 mac,.int .i64 (i1 : Nat),.int .i64 (i2 : Nat),.int .i64 mst,.int .i64 mlc,.slice xa co.length xc,.slice ya hs9.length yc],.int .i64 0]) (by simp [results,Tryz.results66,go_sem,r0,r1,r2,r3,r4,r5,r6,r7,s0,s1,s2,s3,s4,s5,s6]) rfl (by unfold WhPost K0V M0V;exact ⟨l1,i1,0,l2,i2,0,.inr ⟨rfl,HAd.out⟩,.inr ⟨rfl,HAd2.out⟩,.inr ⟨rfl,P2.out,a2,c2,rfl,L3.own_mono (kO HO.out (by omega)) (by omega)⟩,BX.drew⟩)
  ·have hd : (e2 != 0) = true:=by simpa using hz
   have HZ:=hid hz
   have hOh:=hid hO
   obtain ⟨r0,r1,r2,r3,r4,r5,r6,r7⟩:=bR.cells8;obtain ⟨s0,s1,s2,s3,s4,s5,s6⟩:=bS.cells7;have fr0:=bR.frozen 0;have fr1:=bR.frozen 1;have fr2:=bR.frozen 2;have fr3:=bR.frozen 3;have fr4:=bR.frozen 4;have fr5:=bR.frozen 5;have fr6:=bR.frozen 6;have fr7:=bR.frozen 7;have fs0:=bS.frozen 0;have fs1:=bS.frozen 1;have fs2:=bS.frozen 2;have fs3:=bS.frozen 3;have fs4:=bS.frozen 4;have fs5:=bS.frozen 5;have fs6:=bS.frozen 6
   have B2h:=hid B2
   have bRh:=hid bR
   have bSh:=hid bS
   have bCh:=hid bC
   have bMh:=hid bM
   clear had2 hO hb3 hz B2 bR bS bC bM BC2 BM2 BR2 BS2 HB2 HO2
   go_wp2
   clear r0 r1 r2 r3 r4 r5 r6 r7 s0 s1 s2 s3 s4 s5 s6 fr0 fr1 fr2 fr3 fr4 fr5 fr6 fr7 fs0 fs1 fs2 fs3 fs4 fs5 fs6 k2 fk2 m2 fm2
   have hO:=hOh.out
   have B2:=B2h.out
   have bR:=bRh.out
   have bS:=bSh.out
   have bC:=bCh.out
   have bM:=bMh.out
   have g1:=L3.set_grown w3 w.heap.size 2 (.slice a2 l2.length c2)
   have g2:=L3.set_grown (w3.setCell ⟨w.heap.size,2,none⟩ (.slice a2 l2.length c2)) (w.heap.size + 1) 2 (.int .i64 (i2 : Nat))
   have bC:=(bC.set 2 (.slice a2 l2.length c2)).grown g2 (fun e=>by (have:=Option.some.inj e;omega))
   have bM:=(bM.grown g1 (fun e=>by (have:=Option.some.inj e;omega))).set 2 (.int .i64 (i2 : Nat))
   have bR:=(bR.grown g1 (fun e=>by (have:=Option.some.inj e;omega))).grown g2 (fun e=>by (have:=Option.some.inj e;omega))
   have bS:=(bS.grown g1 (fun e=>by (have:=Option.some.inj e;omega))).grown g2 (fun e=>by (have:=Option.some.inj e;omega))
   have hO:=Kit.owns_grown (Kit.owns_grown hO g1 (by omega)) g2 (by omega)
   have B2:=nwB (nwB B2 g1 ⟨Nat.le_refl _,B2.size⟩) g2 ⟨by omega,by rw [World.size_setCell];exact B2.size⟩
   obtain ⟨X2,hX2⟩ : ∃ X,X = ((w3.setCell ⟨w.heap.size,2,none⟩ (.slice a2 l2.length c2)).setCell ⟨w.heap.size + 1,2,none⟩ (.int .i64 (i2 : Nat))):=⟨_,rfl⟩
   rw [← hX2] at bC bM bR bS hO B2 ⊢
   simp only [List.setIfInBounds_toArray,List.set_cons_zero,List.set_cons_succ] at bC bM
   clear hX2 g1 g2
   obtain ⟨r0,r1,r2,r3,r4,r5,r6,r7⟩:=bR.cells8;obtain ⟨s0,s1,s2,s3,s4,s5,s6⟩:=bS.cells7;have fr0:=bR.frozen 0;have fr1:=bR.frozen 1;have fr2:=bR.frozen 2;have fr3:=bR.frozen 3;have fr4:=bR.frozen 4;have fr5:=bR.frozen 5;have fr6:=bR.frozen 6;have fr7:=bR.frozen 7;have fs0:=bS.frozen 0;have fs1:=bS.frozen 1;have fs2:=bS.frozen 2;have fs3:=bS.frozen 3;have fs4:=bS.frozen 4;have fs5:=bS.frozen 5;have fs6:=bS.frozen 6
   obtain ⟨X,hX,kR,kS,kB,kO⟩:=put15 bR rfl bS rfl (.int .i64 0) (.int .i64 0) (.slice none 0 0) (.int .i64 0) (.int .i64 0) (.int .i64 0) (.slice none 0 0) (.slice none 0 0) (.int .i64 0) (.int .i64 0) (.int .i64 0) (.int .i64 0) (.int .i64 0) (.slice none 0 0) (.slice none 0 0)
   rw [← hX]
   clear hX r0 r1 r2 r3 r4 r5 r6 r7 s0 s1 s2 s3 s4 s5 s6 fr0 fr1 fr2 fr3 fr4 fr5 fr6 fr7 fs0 fs1 fs2 fs3 fs4 fs5 fs6 bR bS
   obtain ⟨r0,r1,r2,r3,r4,r5,r6,r7⟩:=kR.cells8;obtain ⟨s0,s1,s2,s3,s4,s5,s6⟩:=kS.cells7
   have BX:=kB w.heap.size (by omega) B2
   exact bodyPost_ret (v:=.tuple #[.agg #[.int .i64 0,.int .i64 0,.slice none 0 0,.int .i64 0,.int .i64 0,.int .i64 0,.slice none 0 0,.slice none 0 0],.agg #[.int .i64 0,.int .i64 0,.int .i64 0,.int .i64 0,.int .i64 0,.slice none 0 0,.slice none 0 0],.int .i64 e2]) (by simp [results,Tryz.results66,go_sem,r0,r1,r2,r3,r4,r5,r6,r7,s0,s1,s2,s3,s4,s5,s6]) rfl (by unfold WhPost K0V M0V;exact ⟨l1,i1,0,l2,i2,e2,.inr ⟨rfl,HAd.out⟩,.inr ⟨rfl,HAd2.out⟩,.inl ⟨HZ.out,rfl⟩,BX⟩)
 ·have hd : (e1 != 0) = true:=by simpa using hz
  have HZ:=hid hz
  have hOh:=hid hO
  obtain ⟨r0,r1,r2,r3,r4,r5,r6,r7⟩:=bR.cells8;obtain ⟨s0,s1,s2,s3,s4,s5,s6⟩:=bS.cells7;have fr0:=bR.frozen 0;have fr1:=bR.frozen 1;have fr2:=bR.frozen 2;have fr3:=bR.frozen 3;have fr4:=bR.frozen 4;have fr5:=bR.frozen 5;have fr6:=bR.frozen 6;have fr7:=bR.frozen 7;have fs0:=bS.frozen 0;have fs1:=bS.frozen 1;have fs2:=bS.frozen 2;have fs3:=bS.frozen 3;have fs4:=bS.frozen 4;have fs5:=bS.frozen 5;have fs6:=bS.frozen 6
  have B2h:=hid B2
  have bRh:=hid bR
  have bSh:=hid bS
  have bCh:=hid bC
  have bMh:=hid bM
  clear had hO hb2 hz B2 bR bS bC bM BC1 BM1 BR1 BS1 HB1
  go_wp2
  clear r0 r1 r2 r3 r4 r5 r6 r7 s0 s1 s2 s3 s4 s5 s6 fr0 fr1 fr2 fr3 fr4 fr5 fr6 fr7 fs0 fs1 fs2 fs3 fs4 fs5 fs6 k2 fk2 m1 fm1
  have hO:=hOh.out
  have B2:=B2h.out
  have bR:=bRh.out
  have bS:=bSh.out
  have bC:=bCh.out
  have bM:=bMh.out
  have g1:=L3.set_grown w2 w.heap.size 2 (.slice a1 l1.length c1)
  have g2:=L3.set_grown (w2.setCell ⟨w.heap.size,2,none⟩ (.slice a1 l1.length c1)) (w.heap.size + 1) 1 (.int .i64 (i1 : Nat))
  have bC:=(bC.set 2 (.slice a1 l1.length c1)).grown g2 (fun e=>by (have:=Option.some.inj e;omega))
  have bM:=(bM.grown g1 (fun e=>by (have:=Option.some.inj e;omega))).set 1 (.int .i64 (i1 : Nat))
  have bR:=(bR.grown g1 (fun e=>by (have:=Option.some.inj e;omega))).grown g2 (fun e=>by (have:=Option.some.inj e;omega))
  have bS:=(bS.grown g1 (fun e=>by (have:=Option.some.inj e;omega))).grown g2 (fun e=>by (have:=Option.some.inj e;omega))
  have hO:=Kit.owns_grown (Kit.owns_grown hO g1 (by omega)) g2 (by omega)
  have B2:=nwB (nwB B2 g1 ⟨Nat.le_refl _,B2.size⟩) g2 ⟨by omega,by rw [World.size_setCell];exact B2.size⟩
  obtain ⟨X1,hX1⟩ : ∃ X,X = ((w2.setCell ⟨w.heap.size,2,none⟩ (.slice a1 l1.length c1)).setCell ⟨w.heap.size + 1,1,none⟩ (.int .i64 (i1 : Nat))):=⟨_,rfl⟩
  rw [← hX1] at bC bM bR bS hO B2 ⊢
  simp only [List.setIfInBounds_toArray,List.set_cons_zero,List.set_cons_succ] at bC bM
  clear hX1 g1 g2
  obtain ⟨r0,r1,r2,r3,r4,r5,r6,r7⟩:=bR.cells8;obtain ⟨s0,s1,s2,s3,s4,s5,s6⟩:=bS.cells7;have fr0:=bR.frozen 0;have fr1:=bR.frozen 1;have fr2:=bR.frozen 2;have fr3:=bR.frozen 3;have fr4:=bR.frozen 4;have fr5:=bR.frozen 5;have fr6:=bR.frozen 6;have fr7:=bR.frozen 7;have fs0:=bS.frozen 0;have fs1:=bS.frozen 1;have fs2:=bS.frozen 2;have fs3:=bS.frozen 3;have fs4:=bS.frozen 4;have fs5:=bS.frozen 5;have fs6:=bS.frozen 6
  obtain ⟨X,hX,kR,kS,kB,kO⟩:=put15 bR rfl bS rfl (.int .i64 0) (.int .i64 0) (.slice none 0 0) (.int .i64 0) (.int .i64 0) (.int .i64 0) (.slice none 0 0) (.slice none 0 0) (.int .i64 0) (.int .i64 0) (.int .i64 0) (.int .i64 0) (.int .i64 0) (.slice none 0 0) (.slice none 0 0)
  rw [← hX]
  clear hX r0 r1 r2 r3 r4 r5 r6 r7 s0 s1 s2 s3 s4 s5 s6 fr0 fr1 fr2 fr3 fr4 fr5 fr6 fr7 fs0 fs1 fs2 fs3 fs4 fs5 fs6 bR bS
  obtain ⟨r0,r1,r2,r3,r4,r5,r6,r7⟩:=kR.cells8;obtain ⟨s0,s1,s2,s3,s4,s5,s6⟩:=kS.cells7
  have BX:=kB w.heap.size (by omega) B2
  exact bodyPost_ret (v:=.tuple #[.agg #[.int .i64 0,.int .i64 0,.slice none 0 0,.int .i64 0,.int .i64 0,.int .i64 0,.slice none 0 0,.slice none 0 0],.agg #[.int .i64 0,.int .i64 0,.int .i64 0,.int .i64 0,.int .i64 0,.slice none 0 0,.slice none 0 0],.int .i64 e1]) (by simp [results,Tryz.results66,go_sem,r0,r1,r2,r3,r4,r5,r6,r7,s0,s1,s2,s3,s4,s5,s6]) rfl (by unfold WhPost K0V M0V;exact ⟨l1,i1,e1,l1,0,e1,.inr ⟨rfl,HAd.out⟩,.inl ⟨HZ.out,rfl,rfl,rfl⟩,.inl ⟨HZ.out,rfl⟩,BX⟩)
end Go.Proofs.YtnojgiflgmnjlaaGreatDoor
namespace Go.Proofs.YtnojgiflgmnjlaaGreatDoor
open Go Go.RowKit
theorem oneCell_of_bs {w : World} {lim : Nat} {v : Value} {bs : List UInt8} (h : L3.Bs lim w v bs) : v.oneCell' = true:=by
 rcases h.2 with ⟨-,a,cap,rfl⟩|⟨b,o,cap,rfl,-⟩ <;> rfl
theorem oneCell_of_is {w : World} {s n : Nat} {v : Value} {xs : List Value} (h : Kit.IsS s w v n xs) : v.oneCell' = true:=by
 obtain ⟨a,cap,rfl⟩:=h.len
 rfl
theorem MsC.ones {w : World} : ∀ {rs : List (List Value)} {ms : List Cf.Mb},MsC w rs ms → ∀ u ∈ rs.flatten,u.oneCell' = true
 | [],[],_,u,hu=>by simp at hu
 | r :: rs,m :: ms,h,u,hu=>by
  rw [List.flatten_cons,List.mem_append] at hu
  rcases hu with hu|hu
  ·obtain ⟨cv,hv,rfl,hB,hH,-⟩:=h.1
   have h1:=oneCell_of_bs hB
   have h2:=oneCell_of_is hH
   simp only [List.mem_cons,List.not_mem_nil,or_false] at hu
   rcases hu with rfl|rfl|rfl|rfl|rfl|rfl|rfl <;> first|rfl|assumption
  ·exact h.2.ones u hu
 | [],_ :: _,h,_,_=>h.elim
 | _ :: _,[],h,_,_=>h.elim
theorem src_none7 (c : Nat) (w : World) : Src Tryz.prog 7 24 (.slice none 0 c) 0 [] w :=
 ⟨.inl ⟨_,Tryz.underlying24⟩,fun _=>rfl,rfl,rfl,rfl,fun u hu=>by cases hu⟩
theorem MsC.app {w : World} : ∀ {rs qs : List (List Value)} {ms ns : List Cf.Mb},MsC w rs ms → MsC w qs ns → MsC w (rs ++ qs) (ms ++ ns)
 | [],_,[],_,_,k=>k
 | _ :: _,_,_ :: _,_,h,k=>⟨h.1,h.2.app k⟩
 | [],_,_ :: _,_,h,_=>h.elim
 | _ :: _,_,[],_,h,_=>h.elim
end Go.Proofs.YtnojgiflgmnjlaaGreatDoor
namespace Go.Proofs.YtnojgiflgmnjlaaGreatDoor
open Go.RowKit
theorem begB_take {l : List L1.Op1.Ins} {p : Int} {k : Nat} {x : L1.Op1.Ins} (h : Cf.begB (l.take k) p = false) (hx : l[k]? = some x) (hne : x.p ≠ p) : Cf.begB (l.take (k + 1)) p = false:=by
 rw [List.take_add_one,hx]
 unfold Cf.begB at h ⊢
 rw [List.any_append,h]
 simpa using hne
theorem begB_yes {l : List L1.Op1.Ins} {p : Int} {k : Nat} {x : L1.Op1.Ins} (hx : l[k]? = some x) (he : x.p = p) : Cf.begB l p = true:=by
 unfold Cf.begB
 rw [List.any_eq_true]
 exact ⟨x,List.mem_of_getElem? hx,by simpa using he⟩
set_option maxHeartbeats 1000000 in
theorem rbegins_any (l : List L1.Op1.Ins) (p : Int) (v : Value) (w : World) (hv : Kit.IsS 4 w v l.length (L1.insCells l)) :
  Calls Tryz.prog 160 #[v,.int .i64 p] w fun e w'=>e = .returned (.bool (Cf.begB l p)) ∧ w = w':=by
 have HV:=hid hv
 obtain ⟨a,cap,rfl⟩:=hv.len
 have hlen:=hv.2.1
 obtain ⟨r,hr⟩ : ∃ r,r = Cf.begB l p:=⟨_,rfl⟩
 rw [← hr]
 have HR:=hid hr
 clear hv hr
 go_enter Tryz.func160,Tryz.ntmps160
 go_wp2
 go_loopw [5] (fun i wr=>∃ k : Nat,k ≤ l.length ∧ i = .int .i64 k ∧ Hid (Cf.begB (l.take k) p = false) ∧ w = wr) (fun i _=>l.length - (intOf i).toNat)
 case atStart=>exact ⟨0,by omega,rfl,rfl,rfl⟩
 case round =>
  obtain ⟨k,hk,rfl,htk,rfl⟩:=hrel
  by_cases hlt : k < l.length
  ·obtain ⟨x,hx⟩ : ∃ x,l[k]? = some x:=⟨l[k],List.getElem?_eq_getElem hlt⟩
   obtain ⟨b,o,cap',hv,hb,c0,-,-,-⟩:=L1.ins_at HV.out hx
   obtain ⟨rfl,-,rfl⟩:=Value.slice.inj hv
   have i1 : (k : Int) < (l.length : Int):=by omega
   by_cases hxy : x.p = p
   ·have HF : Hid (r = true):=HR.out.trans (begB_yes hx hxy)
    clear hx hv
    have hd : (x.p == p) = true:=by simpa using hxy
    clear hxy
    go_wp2
    go_ret
    exact ⟨by rw [HF.out];rfl,rfl⟩
   ·have HF:=hid (begB_take htk.out hx hxy)
    have hd : (x.p == p) = false:=by simpa using hxy
    clear hx hv hxy
    go_wp2
    go_roundw
    case rel=>exact ⟨k + 1,by omega,by go_num,HF,by first|rfl|trivial⟩
    case measure=>simp [intOf];omega
  ·obtain rfl : k = l.length:=by omega
   have HF : Hid (r = false):=by
    show r = false
    have:=htk.out
    rw [List.take_length] at this
    rw [HR.out,this]
   go_wp2
   go_ret
   exact ⟨by rw [HF.out];rfl,rfl⟩
theorem inB_take {P : List L3.Cp.C} {ms : List Cf.Mb} {n : ByteArray × ByteArray} {k : Nat} {m : Cf.Mb} (h : Cf.inB n (Cf.ahead P ms k) = false) (hm : ms[k]? = some m) (hne : ¬ ((Cf.mbO P m).1.1 = n.1 ∧ (Cf.mbO P m).1.2 = n.2)) : Cf.inB n (Cf.ahead P ms (k + 1)) = false:=by
 unfold Cf.ahead at h ⊢
 rw [List.take_add_one,hm]
 unfold Cf.inB at h ⊢
 rw [List.map_append,List.any_append,h]
 simpa using hne
theorem inB_yes {P : List L3.Cp.C} {ms : List Cf.Mb} {n : ByteArray × ByteArray} {k : Nat} {m : Cf.Mb} (hm : ms[k]? = some m) (h : (Cf.mbO P m).1.1 = n.1 ∧ (Cf.mbO P m).1.2 = n.2) : Cf.inB n (Cf.ahead P ms ms.length) = true:=by
 unfold Cf.inB Cf.ahead
 rw [List.take_length,List.any_eq_true]
 exact ⟨_,List.mem_map_of_mem (List.mem_of_getElem? hm),by simpa using h⟩
theorem str_ne {a b : ByteArray} (h : ¬ a = b) : (a.toList == b.toList) = false:=by
 rw [beq_eq_false_iff_ne]
 intro e
 rw [ByteArray.toList_eq,ByteArray.toList_eq] at e
 exact h (ByteArray.ext (Array.toList_inj.1 e))
set_option maxHeartbeats 2000000 in
theorem rtwice_any (c : Cf.Cl) (vs : Array Value) (ms : List Cf.Mb) (v : Value) (n : ByteArray × ByteArray) (w : World) (hv : ClR w vs c) (hm : MsR w v ms) :
  Calls Tryz.prog 116 #[.agg vs,v,ndV n] w fun e w'=>e = .returned (.bool (Cf.inB n (Cf.ahead c.pool ms ms.length))) ∧ Below w.heap.size w w':=by
 have HC0:=hid hv
 have HV:=hid hm
 obtain ⟨pv,fv,mv,rfl,hp,hf,hms⟩:=hv
 obtain ⟨pa,pc,rfl⟩:=hp.len
 obtain ⟨fa,fc,rfl⟩:=hf.len
 obtain ⟨ma,mc,rfl⟩:=hms.len
 obtain ⟨a,cap,rfl⟩:=hm.len
 obtain ⟨r,hr⟩ : ∃ r,r = Cf.inB n (Cf.ahead c.pool ms ms.length):=⟨_,rfl⟩
 rw [← hr]
 have HR:=hid hr
 have HLn:=hid hm.size
 obtain ⟨n1,n2⟩:=n
 unfold ndV
 dsimp only at HR ⊢
 clear hp hf hms hm hr
 go_enter Tryz.func116,Tryz.ntmps116
 go_wp2_with fail
 obtain ⟨W1,hW1⟩ : ∃ W1,W1 = ((w.alloc (.cells #[.int .i64 c.mi,.int .i64 c.ma,.slice pa c.pool.length pc,.int .i64 c.ac,.int .i64 c.th,.int .i64 c.su,.slice fa c.fs.length fc,.slice ma c.ms.length mc] 26)).alloc (.cells #[.string ⟨#[]⟩,.string n1,.string n2] 44)):=⟨_,rfl⟩
 obtain ⟨bC,bN,hzW,B1⟩:=boxes2 (w:=w) (w1:=W1) (by rw [hW1];exact Below.refl _ _)
 rw [← hW1]
 have HB1:=hid B1
 have BC1:=hid bC
 have BN1:=hid bN
 clear hW1 bC bN B1
 go_loopw [7] (fun i wr=>∃ k : Nat,k ≤ ms.length ∧ i = .int .i64 k ∧ Hid (Cf.inB (n1,n2) (Cf.ahead c.pool ms k) = false) ∧ Below W1.heap.size W1 wr) (fun i _=>ms.length - (intOf i).toNat)
 case atStart=>exact ⟨0,by omega,rfl,rfl,Below.refl _ _⟩
 case round =>
  obtain ⟨k,hk,rfl,htk,hbl⟩:=hrel
  have HJ:=hid hbl
  have hln:=HLn.out
  have hBr : Below w.heap.size w wr:=belows HB1.out hbl HB1.out.size
  by_cases hlt : k < ms.length
  ·obtain ⟨x,hx⟩ : ∃ x,ms[k]? = some x:=⟨ms[k],List.getElem?_eq_getElem hlt⟩
   obtain ⟨b,o,cap',cv,hw,hv2,hbb,hB,hH,hl,c0,c1,c2,c3,c4,c5,c6⟩:=(HV.out.below hBr (Nat.le_refl _)).at hx
   obtain ⟨rfl,-,rfl⟩:=Value.slice.inj hv2
   have i1 : (k : Int) < (ms.length : Int):=by omega
   have hx1:=HC0.out
   have HA1:=fun W (q : Below w.heap.size w W)=>rmember_any c _ x cv hw W (HC0.out.below q (Nat.le_refl _))
   obtain ⟨xa,xc,rfl⟩:=hB.len
   obtain ⟨ya,yc,rfl⟩:=hH.len
   have hstep:=fun (hne : ¬ ((Cf.mbO c.pool x).1.1 = n1 ∧ (Cf.mbO c.pool x).1.2 = n2))=>inB_take (n:=(n1,n2)) htk.out hx hne
   have hyes:=fun (he : (Cf.mbO c.pool x).1.1 = n1 ∧ (Cf.mbO c.pool x).1.2 = n2)=>inB_yes (n:=(n1,n2)) hx he
   obtain ⟨⟨⟨x1,x2⟩,xe⟩,hxe⟩ : ∃ y,y = Cf.mbO c.pool x:=⟨_,rfl⟩
   rw [← hxe] at HA1 hstep hyes
   unfold ndV mbV at HA1
   dsimp only at HA1 hstep hyes
   have HA:=hid HA1
   have HS:=hid hstep
   have HY:=hid hyes
   have bC:=BC1.out.below hbl BC1.out.sz
   have bN:=BN1.out.below hbl BN1.out.sz
   have hzr:=hbl.size
   (have q0:=bC.cell 0;have fq0:=bC.frozen 0;have q1:=bC.cell 1;have fq1:=bC.frozen 1;have q2:=bC.cell 2;have fq2:=bC.frozen 2;have q3:=bC.cell 3;have fq3:=bC.frozen 3;have q4:=bC.cell 4;have fq4:=bC.frozen 4;have q5:=bC.cell 5;have fq5:=bC.frozen 5;have q6:=bC.cell 6;have fq6:=bC.frozen 6;have q7:=bC.cell 7;have fq7:=bC.frozen 7;simp at q0 q1 q2 q3 q4 q5 q6 q7)
   have p0:=bN.cell 0
   have p1:=bN.cell 1
   have p2:=bN.cell 2
   simp at p0 p1 p2
   clear hx hv2 hB hH hl hx1 HA1 hstep hyes hxe bC bN
   have hn1 : ¬ wr.heap.size = w.heap.size:=by omega
   have hn2 : ¬ wr.heap.size = b:=by omega
   have hn3 : ¬ wr.heap.size = w.heap.size + 1:=by omega
   go_wp2_with fail
   go_region_held3 (fun w'=>w'.cell? ⟨w.heap.size,0,none⟩ = some (.int .i64 c.mi) ∧ w'.cell? ⟨w.heap.size,1,none⟩ = some (.int .i64 c.ma) ∧ w'.cell? ⟨w.heap.size,2,none⟩ = some (.slice pa c.pool.length pc) ∧ w'.cell? ⟨w.heap.size,3,none⟩ = some (.int .i64 c.ac) ∧ w'.cell? ⟨w.heap.size,4,none⟩ = some (.int .i64 c.th) ∧ w'.cell? ⟨w.heap.size,5,none⟩ = some (.int .i64 c.su) ∧ w'.cell? ⟨w.heap.size,6,none⟩ = some (.slice fa c.fs.length fc) ∧ w'.cell? ⟨w.heap.size,7,none⟩ = some (.slice ma c.ms.length mc) ∧
     w'.cell? ⟨b,o + k * 7,none⟩ = some (.int .i64 x.ac) ∧ w'.cell? ⟨b,o + k * 7 + 1,none⟩ = some (.int .i64 x.nm) ∧ w'.cell? ⟨b,o + k * 7 + 2,none⟩ = some (.int .i64 x.ds) ∧ w'.cell? ⟨b,o + k * 7 + 3,none⟩ = some (.int .i64 x.st) ∧ w'.cell? ⟨b,o + k * 7 + 4,none⟩ = some (.int .i64 x.lc) ∧ w'.cell? ⟨b,o + k * 7 + 5,none⟩ = some (.slice xa x.code.length xc) ∧ w'.cell? ⟨b,o + k * 7 + 6,none⟩ = some (.slice ya x.hs.length yc))
    (first|exact ⟨q0,q1,q2,q3,q4,q5,q6,q7,c0,c1,c2,c3,c4,c5,c6⟩|go_keep)
    (first|(go_at_call 25;refine (HA.out _ BLw).mono ?_;rintro e w2 ⟨rfl,hb2⟩;have hB2 : Below wr.heap.size wr w2:=(by first|exact below_undrew hb2|exact belows (((Below.refl wr.heap.size wr).drew).alloc (by simp) _) hb2 (by simp));(try (have bX:=(L3.BX.new wr.drew #[.string ⟨#[]⟩,.string ⟨#[]⟩,.string ⟨#[]⟩] 44).below hb2 (by simp);have xq0:=bX.cell 0;have xq1:=bX.cell 1;have xq2:=bX.cell 2;have fx0:=bX.frozen 0;have fx1:=bX.frozen 1;have fx2:=bX.frozen 2;have hzx:=bX.sz;simp at xq0 xq1 xq2 fx0 fx1 fx2 hzx));have bN:=(BN1.out.below HJ.out BN1.out.sz).below hB2 (BN1.out.below HJ.out BN1.out.sz).sz;clear p0 p1 p2;have p0:=bN.cell 0;have p1:=bN.cell 1;have p2:=bN.cell 2;have hzq:=bN.sz;simp at p0 p1 p2;have HJ2:=hid (belows HJ.out hB2 HJ.out.size);have bC:=(BC1.out.below HJ.out BC1.out.sz).below hB2 (BC1.out.below HJ.out BC1.out.sz).sz;clear q0 q1 q2 q3 q4 q5 q6 q7 fq0 fq1 fq2 fq3 fq4 fq5 fq6 fq7;(obtain ⟨q0,q1,q2,q3,q4,q5,q6,q7⟩:=bC.cells8);have c0:=(hB2.cell (p:=⟨b,o + k * 7,none⟩) (by simpa using hbb)).trans c0;have c1:=(hB2.cell (p:=⟨b,o + k * 7 + 1,none⟩) (by simpa using hbb)).trans c1;have c2:=(hB2.cell (p:=⟨b,o + k * 7 + 2,none⟩) (by simpa using hbb)).trans c2;have c3:=(hB2.cell (p:=⟨b,o + k * 7 + 3,none⟩) (by simpa using hbb)).trans c3;have c4:=(hB2.cell (p:=⟨b,o + k * 7 + 4,none⟩) (by simpa using hbb)).trans c4;have c5:=(hB2.cell (p:=⟨b,o + k * 7 + 5,none⟩) (by simpa using hbb)).trans c5;have c6:=(hB2.cell (p:=⟨b,o + k * 7 + 6,none⟩) (by simpa using hbb)).trans c6))
   all_goals
    have B12:=HJ2.out
    have hz12:=B12.size
    by_cases hxy : x1 = n1 ∧ x2 = n2
    ·obtain ⟨rfl,rfl⟩:=hxy
     have HF:=hid (HR.out.trans (HY.out ⟨rfl,rfl⟩))
     clear HY HS
     go_wp2
     go_ret
     exact ⟨by rw [HF.out];rfl,(belows HB1.out (show Below W1.heap.size W1 _ from BLw) HB1.out.size)⟩
    ·have HF:=hid (HS.out hxy)
     have hd : x1 ≠ n1 ∨ (x1 = n1 ∧ x2 ≠ n2):=by
      by_cases e1 : x1 = n1
      ·exact .inr ⟨e1,fun e2=>hxy ⟨e1,e2⟩⟩
      ·exact .inl e1
     clear HY HS hxy
     rcases hd with hd|⟨rfl,hd⟩
     all_goals
      have hd1:=str_ne hd
      clear hd
      go_wp2
      go_roundw
      case rel=>exact ⟨k + 1,by omega,by go_num,HF,BLw⟩
      case measure=>simp [intOf];omega
  ·obtain rfl : k = ms.length:=by omega
   have HF : Hid (r = false):=HR.out.trans htk.out
   go_wp2
   go_ret
   exact ⟨by rw [HF.out];rfl,hBr⟩
end Go.Proofs.YtnojgiflgmnjlaaGreatDoor
