/- Own texts for the claim, part 24. -/
import Derived.Test.YtnojgiflgmnjlaaGreatDoorZO23
import Derived.Deep.DeepCutAuto
set_option maxRecDepth 100000
namespace Go.Proofs.YtnojgiflgmnjlaaGreatDoor
open Go.RowKit
theorem AdS.det {l : List L3.Cp.C} {er : Int} {c : L3.Cp.C} {m m' : List L3.Cp.C} {i i' : Nat} {e e' : Int} (h : AdS l er c m i e) (k : AdS l er c m' i' e') : m = m' ∧ i = i' ∧ e = e':=by
 rcases h with ⟨h1,rfl,rfl,rfl⟩|⟨rfl,h⟩ <;> rcases k with ⟨k1,rfl,rfl,rfl⟩|⟨k0,k⟩
 ·exact ⟨rfl,rfl,rfl⟩
 ·exact absurd k0 h1
 ·exact absurd rfl k1
 ·exact L3.AdIs.det h k
theorem NwIs.det {a b : ByteArray} {c c' : Cf.Cl} {er er' : Int} (h : NwIs a b c er) (k : NwIs a b c' er') : c = c' ∧ er = er':=by
 unfold NwIs at h k
 split at h
 ·rename_i h1;rw [if_pos h1] at k;exact ⟨h.1.trans k.1.symm,h.2.trans k.2.symm⟩
 ·rename_i h1
  rw [if_neg h1] at k
  split at h
  ·rename_i h2;rw [if_pos h2] at k;exact ⟨h.1.trans k.1.symm,h.2.trans k.2.symm⟩
  ·rename_i h2
   rw [if_neg h2] at k
   obtain ⟨m0,i0,e0,m1,i1,e1,m2,i2,e2,m3,i3,e3,m4,i4,e4,a0,a1,a2,a3,a4,h⟩:=h
   obtain ⟨m0',i0',e0',m1',i1',e1',m2',i2',e2',m3',i3',e3',m4',i4',e4',b0,b1,b2,b3,b4,k⟩:=k
   obtain ⟨rfl,rfl,rfl⟩:=a0.det b0
   obtain ⟨rfl,rfl,rfl⟩:=a1.det b1
   obtain ⟨rfl,rfl,rfl⟩:=a2.det b2
   obtain ⟨rfl,rfl,rfl⟩:=a3.det b3
   obtain ⟨rfl,rfl,rfl⟩:=a4.det b4
   split at h
   ·rename_i h3;rw [if_pos h3] at k;exact ⟨h.1.trans k.1.symm,h.2.trans k.2.symm⟩
   ·rename_i h3;rw [if_neg h3] at k;exact ⟨h.1.trans k.1.symm,h.2.trans k.2.symm⟩
theorem ad_new {l : List L3.Cp.C} {c : L3.Cp.C} (h1 : L3.CkIs l 0) (h2 : L3.ceOut c = 0) (h3 : (l.drop 1).all (fun x=>decide (x ≠ c)) = true) (h4 : (L3.appE (L3.hdP l) c).length ≤ 4096) : AdS l 0 c (L3.appE (L3.hdP l) c) (L3.hdP l).length 0:=by
 refine .inr ⟨rfl,.inr ⟨h1,.inr ⟨h2,.inr ⟨.inl ⟨rfl,rfl,fun j hj _ he=>?_⟩,.inr ⟨h4,rfl,rfl,rfl⟩⟩⟩⟩⟩
 rw [List.all_eq_true] at h3
 have:=h3 c (by
  rw [List.mem_iff_getElem?]
  exact ⟨j - 1,by rw [List.getElem?_drop,show 1 + (j - 1) = j by omega];exact he⟩)
 simp at this
namespace Cf
def aS : ByteArray:=⟨#[65]⟩
def oS : ByteArray:=⟨#[106,97,118,97,47,108,97,110,103,47,79,98,106,101,99,116]⟩
def fS : ByteArray:=⟨#[102]⟩
def dS : ByteArray:=⟨#[40,41,73]⟩
def p2 : List L3.Cp.C:=[L3.Cp.C0,codeC]
def p3 : List L3.Cp.C:=p2 ++ [⟨1,aS,0,0,0⟩]
def p4 : List L3.Cp.C:=p3 ++ [⟨7,⟨#[]⟩,0,2,0⟩]
def p5 : List L3.Cp.C:=p4 ++ [⟨1,oS,0,0,0⟩]
def p6 : List L3.Cp.C:=p5 ++ [⟨7,⟨#[]⟩,0,4,0⟩]
def p7 : List L3.Cp.C:=p6 ++ [⟨1,fS,0,0,0⟩]
def p8 : List L3.Cp.C:=p7 ++ [⟨1,dS,0,0,0⟩]
def kA : Cl:=⟨0,52,p6,33,3,5,[],[]⟩
def mF0 : Mb:=⟨8,0,0,1,0,[4,172],[]⟩
def mF : Mb:=⟨8,6,7,1,0,[4,172],[]⟩
def kF : Cl:=⟨0,52,p8,33,3,5,[],[mF]⟩
set_option maxRecDepth 100000
theorem ck0 : L3.CkIs [] 0:=L3.ck_all.2 ⟨by decide,by decide +kernel⟩
theorem ck2 : L3.CkIs p2 0:=L3.ck_all.2 ⟨by decide +kernel,by decide +kernel⟩
theorem ck3 : L3.CkIs p3 0:=L3.ck_all.2 ⟨by decide +kernel,by decide +kernel⟩
theorem ck4 : L3.CkIs p4 0:=L3.ck_all.2 ⟨by decide +kernel,by decide +kernel⟩
theorem ck5 : L3.CkIs p5 0:=L3.ck_all.2 ⟨by decide +kernel,by decide +kernel⟩
theorem ck6 : L3.CkIs p6 0:=L3.ck_all.2 ⟨by decide +kernel,by decide +kernel⟩
theorem ck7 : L3.CkIs p7 0:=L3.ck_all.2 ⟨by decide +kernel,by decide +kernel⟩
theorem ck8 : L3.CkIs p8 0:=L3.ck_all.2 ⟨by decide +kernel,by decide +kernel⟩
theorem ad2 : AdS [] 0 codeC p2 1 0:=ad_new ck0 (by decide +kernel) (by decide +kernel) (by decide +kernel)
theorem ad3 : AdS p2 0 ⟨1,aS,0,0,0⟩ p3 2 0:=ad_new ck2 (by decide +kernel) (by decide +kernel) (by decide +kernel)
theorem ad4 : AdS p3 0 ⟨7,⟨#[]⟩,0,(2 : Nat),0⟩ p4 3 0:=ad_new ck3 (by decide +kernel) (by decide +kernel) (by decide +kernel)
theorem ad5 : AdS p4 0 ⟨1,oS,0,0,0⟩ p5 4 0:=ad_new ck4 (by decide +kernel) (by decide +kernel) (by decide +kernel)
theorem ad6 : AdS p5 0 ⟨7,⟨#[]⟩,0,(4 : Nat),0⟩ p6 5 0:=ad_new ck5 (by decide +kernel) (by decide +kernel) (by decide +kernel)
theorem ad7 : AdS p6 0 ⟨1,fS,0,0,0⟩ p7 6 0:=ad_new ck6 (by decide +kernel) (by decide +kernel) (by decide +kernel)
theorem ad8 : AdS p7 0 ⟨1,dS,0,0,0⟩ p8 7 0:=ad_new ck7 (by decide +kernel) (by decide +kernel) (by decide +kernel)
theorem nw_A : NwIs aS oS kA 0:=by
 unfold NwIs
 rw [if_neg (by decide +kernel),if_neg (by decide +kernel)]
 exact ⟨p2,1,0,p3,2,0,p4,3,0,p5,4,0,p6,5,0,ad2,ad3,ad4,ad5,ad6,by rw [if_neg (by decide)];exact ⟨rfl,rfl⟩⟩
theorem dec_F : ∃ l,L1.Op1.DecOut [4,172] l 0 :=
 ⟨_,.ok (by decide) (by decide) (.snoc (.snoc .nil (by decide +kernel)) (by decide +kernel)) (by decide +kernel)⟩
theorem cl_F : ClIs kF 0:=by
 refine FstR.all fun k hk=>?_
 match k,hk with
 | 0,_ =>
  show HdIs kF 0
  unfold HdIs
  rw [if_neg (by decide +kernel)]
  refine ⟨0,ck8,?_⟩
  rw [if_neg (by decide),if_neg (by decide +kernel),if_neg (by decide +kernel),if_neg (by decide +kernel),if_neg (by decide +kernel)]
 | 1,_=>exact FstR.all fun k hk=>by cases hk
 | 2,_ =>
  refine FstR.all fun k hk=>?_
  obtain rfl : k = 0:=by have : k < 1:=hk;omega
  refine ⟨mF,rfl,?_⟩
  unfold meIs
  rw [if_neg (by decide +kernel),if_neg (by decide +kernel),if_neg (by decide +kernel),if_neg (by decide +kernel),if_neg (by decide +kernel)]
  obtain ⟨l,hl⟩:=dec_F
  refine ⟨l,0,hl,?_⟩
  rw [if_neg (by decide),if_neg (by decide +kernel)]
  exact FstR.all fun k hk=>by cases hk
 | 3,_=>exact ⟨_,_,cix_fi p8,by decide +kernel⟩
end Cf
end Go.Proofs.YtnojgiflgmnjlaaGreatDoor
namespace Go.Proofs.YtnojgiflgmnjlaaGreatDoor
open Go.RowKit
theorem code2 (W0 : World) (T : TypeId) : L3.Bs (W0.alloc (.cells #[.int .u8 4,.int .u8 172] T)).heap.size (W0.alloc (.cells #[.int .u8 4,.int .u8 172] T)) (.slice (some ⟨W0.heap.size,0,none⟩) 2 2) [4,172]:=by
 refine ⟨by decide,.inr ⟨W0.heap.size,0,2,rfl,by decide,by rw [World.size_alloc];omega,fun i c hi=>?_⟩⟩
 rw [(L3.BX.new W0 _ _).cell]
 match i,hi with
 | 0,hi=>simp at hi;subst hi;rfl
 | 1,hi=>simp at hi;subst hi;rfl
 | i + 2,hi=>simp at hi
def NaPost (w : World) (e : Ending) (w' : World) : Prop:=∃ pa pc fa fc ma mc,e = .returned (.tuple #[.agg #[.int .i64 0,.int .i64 52,.slice pa 6 pc,.int .i64 33,.int .i64 3,.int .i64 5,.slice fa 0 fc,.slice ma 0 mc],.int .i64 0]) ∧
 ClR w' #[.int .i64 0,.int .i64 52,.slice pa 6 pc,.int .i64 33,.int .i64 3,.int .i64 5,.slice fa 0 fc,.slice ma 0 mc] Cf.kA ∧ Below w.heap.size w w'
theorem newA (w : World) (t3 : L3.Tabs w) : Calls Tryz.prog 30 #[.string ⟨#[65]⟩,.string ⟨#[106,97,118,97,47,108,97,110,103,47,79,98,106,101,99,116]⟩] w (NaPost w):=by
 refine (new_any Cf.aS Cf.oS w t3).mono ?_
 rintro e w1 ⟨c,er,vs,hN,rfl,hR,-,hb⟩
 obtain ⟨rfl,rfl⟩:=NwIs.det hN Cf.nw_A
 have hR2:=hR
 obtain ⟨pv,fv,mv,rfl,hp,hf,hm⟩:=hR
 obtain ⟨pa,pc,rfl⟩:=hp.len
 obtain ⟨fa,fc,rfl⟩:=hf.len
 obtain ⟨ma,mc,rfl⟩:=hm.len
 exact ⟨pa,pc,fa,fc,ma,mc,rfl,hR2,hb⟩
def WfPost (w : World) (e : Ending) (w' : World) : Prop:=∃ pa pc fa fc ma mc,e = .returned (.tuple #[.agg #[.int .i64 0,.int .i64 52,.slice pa 8 pc,.int .i64 33,.int .i64 3,.int .i64 5,.slice fa 0 fc,.slice ma 1 mc],.int .i64 0]) ∧
 OCl w' w.heap.size #[.int .i64 0,.int .i64 52,.slice pa 8 pc,.int .i64 33,.int .i64 3,.int .i64 5,.slice fa 0 fc,.slice ma 1 mc] Cf.kF ∧ Below w.heap.size w w'
theorem szF : Cf.Sz Cf.kF:=⟨by show (8 : Nat) ≤ _;decide,by show (0 : Nat) ≤ _;decide,by show (1 : Nat) ≤ _;decide⟩
theorem szA : Cf.Szc Cf.kA:=⟨by decide +kernel,by decide,by decide,fun m hm=>by (cases hm),fun m hm=>by (cases hm)⟩
theorem pzA : PoolSz Cf.kA.pool:=⟨by decide +kernel,by decide +kernel⟩
theorem pzF : PoolSz Cf.kF.pool:=⟨by decide +kernel,by decide +kernel⟩
theorem withF (w : World) (t1 : L1.Tabs w) (t3 : L3.Tabs w) (vs : Array Value) (hR : ClR w vs Cf.kA) (g : Nat) (hB : L3.Bs w.heap.size w (.slice (some ⟨g,0,none⟩) 2 2) [4,172]) :
  Calls Tryz.prog 28 #[.agg vs,.string ⟨#[102]⟩,.string ⟨#[40,41,73]⟩,.agg #[.int .i64 8,.int .i64 0,.int .i64 0,.int .i64 1,.int .i64 0,.slice (some ⟨g,0,none⟩) 2 2,.slice none 0 0]] w (WfPost w):=by
 refine (withMethod_any Cf.kA vs Cf.mF0 (.slice (some ⟨g,0,none⟩) 2 2) (.slice none 0 0) Cf.fS Cf.dS w ⟨t1,t3,pzA.1,pzA.2⟩ hR szA pzA hB ⟨rfl,by decide,.inl ⟨rfl,none,0,rfl⟩⟩ (by decide) (by decide) (by decide) (by decide) (by decide)).mono ?_
 rintro e w1 ⟨l1,i1,e1,l2,i2,e2,h1,h2,h3,hb⟩
 obtain ⟨rfl,rfl,rfl⟩:=h1.det Cf.ad7
 obtain ⟨rfl,rfl,rfl⟩:=h2.det Cf.ad8
 rcases h3 with ⟨h,-⟩|⟨-,⟨-,vs',rfl,hO,-⟩|⟨er,hz,hc,-⟩⟩
 ·exact absurd rfl h
 ·have hR2 : ClR w1 vs' Cf.kF:=hO.reads szF
  have hR3 : OCl w1 w.heap.size vs' Cf.kF:=hO
  obtain ⟨pv,fv,mv,rfl,hp,hf,hm⟩:=hR2
  obtain ⟨pa,pc,rfl⟩:=hp.len
  obtain ⟨fa,fc,rfl⟩:=hf.len
  obtain ⟨ma,mc,rfl⟩:=hm.len
  exact ⟨pa,pc,fa,fc,ma,mc,rfl,hR3,hb⟩
 ·exact absurd (Cf.ClIs.det hc Cf.cl_F) hz
theorem lenF : (Cf.clB Cf.kF).length = 98:=by decide +kernel
theorem headF : (Cf.clB Cf.kF)[0]? = some 202:=by decide +kernel
theorem bytF : L3.Byt (Cf.clB Cf.kF):=by unfold L3.Byt;decide +kernel
theorem i6F : ∀ x ∈ Cf.kF.pool,L3.I6 x.n:=by unfold L3.I6;decide +kernel
theorem backF : Cf.clP (L3.bsOf (Cf.clB Cf.kF)) = .ok (Cf.kF,[]) :=
 Cf.cl_back (Cf.cl_ranges Cf.cl_F i6F ⟨⟨by decide,by decide⟩,fun m hm=>(by cases hm),fun m hm=>(by
  obtain rfl:=List.mem_singleton.1 hm
  exact ⟨by decide,by decide⟩)⟩)
def EfPost (w : World) (e : Ending) (w' : World) : Prop:=∃ g cap,e = .returned (.tuple #[.slice (some ⟨g,0,none⟩) 98 cap,.int .i64 0]) ∧ L3.Bs w'.heap.size w' (.slice (some ⟨g,0,none⟩) 98 cap) (L3.bsOf (Cf.clB Cf.kF)) ∧ w'.cell? ⟨g,0,none⟩ = some (.int .u8 202) ∧ Below w.heap.size w w'
theorem encF (w : World) (t1 : L1.Tabs w) (t3 : L3.Tabs w) (vs : Array Value) (hR : ClR w vs Cf.kF) : Calls Tryz.prog 15 #[.agg vs] w (EfPost w):=by
 refine (encode_any Cf.kF vs w ⟨t1,t3,pzF.1,pzF.2⟩ hR).mono ?_
 rintro e w1 ⟨er,hc,-,h,hb⟩
 obtain rfl:=Cf.ClIs.det hc Cf.cl_F
 obtain ⟨v,rfl,hO⟩:=(h rfl).2 (by rw [lenF];decide)
 obtain ⟨g,cap,rfl,hg,hcl⟩:=own_some hO (by rw [lenF];decide)
 have h0:=hcl 0 (.int .u8 202) (by rw [List.getElem?_map,headF];rfl)
 rw [add_at] at h0
 have hbs:=L3.bs_of_own hO bytF (by rw [lenF];decide)
 rw [lenF] at hbs ⊢
 exact ⟨g,cap,rfl,hbs,h0,hb⟩
def DfPost (w : World) (e : Ending) (w' : World) : Prop:=∃ pa pc fa fc ma mc,e = .returned (.tuple #[.agg #[.int .i64 0,.int .i64 52,.slice pa 8 pc,.int .i64 33,.int .i64 3,.int .i64 5,.slice fa 0 fc,.slice ma 1 mc],.int .i64 0]) ∧
 ClR w' #[.int .i64 0,.int .i64 52,.slice pa 8 pc,.int .i64 33,.int .i64 3,.int .i64 5,.slice fa 0 fc,.slice ma 1 mc] Cf.kF ∧ Below w.heap.size w w'
theorem decF (w : World) (t1 : L1.Tabs w) (t3 : L3.Tabs w) (v : Value) (hv : L3.Bs w.heap.size w v (L3.bsOf (Cf.clB Cf.kF))) : Calls Tryz.prog 11 #[v] w (DfPost w):=by
 refine (decode_any _ v w t1 t3 hv).mono ?_
 rintro e w1 ⟨c,er,vs,hD,rfl,hR,-,-,hb⟩
 unfold Cf.DcIs at hD
 rw [if_neg (by rw [L3.bsOf_len,lenF];decide),backF] at hD
 obtain ⟨e2,hc,hD⟩:=hD
 obtain rfl:=Cf.ClIs.det hc Cf.cl_F
 rw [if_pos rfl] at hD
 obtain ⟨rfl,rfl⟩:=hD
 have hR3:=hR
 obtain ⟨pv,fv,mv,rfl,hp,hf,hm⟩:=hR
 obtain ⟨pa,pc,rfl⟩:=hp.len
 obtain ⟨fa,fc,rfl⟩:=hf.len
 obtain ⟨ma,mc,rfl⟩:=hm.len
 exact ⟨pa,pc,fa,fc,ma,mc,rfl,hR3,hb⟩
end Go.Proofs.YtnojgiflgmnjlaaGreatDoor
namespace Go.Proofs.YtnojgiflgmnjlaaGreatDoor
open Go.RowKit
set_option maxHeartbeats 1000000 in
theorem begun_any (w : World) (t1 : L1.Tabs w) (t3 : L3.Tabs w) : Calls Tryz.prog 13 #[] w fun e w'=>e = .returned (.bool true) ∧ Below w.heap.size w w':=by
 have HT:=hid (And.intro t1 t3)
 clear t1 t3
 go_enter Tryz.func13,Tryz.ntmps13
 go_wp2_with (first|(go_at_call 30;(fail_if_success (have _g:=HB1));refine (newA w HT.out.2).mono ?_;rintro e w1 ⟨pa,pc,fa,fc,ma,mc,rfl,hR,hb1⟩;have HR1:=hid hR;have HB1:=hid hb1;clear hR hb1)|(go_at_call 28;(fail_if_success (have _g:=HB2));go_loud (have B2 : Below w1.heap.size w1 ((w1.alloc (.cells #[.int .i64 0,.int .i64 52,.slice pa 6 pc,.int .i64 33,.int .i64 3,.int .i64 5,.slice fa 0 fc,.slice ma 0 mc] 26)).alloc (.cells #[.int .u8 4,.int .u8 172] 5)):=BLw;have bC:=BX.al (L3.BX.new w1 #[.int .i64 0,.int .i64 52,.slice pa 6 pc,.int .i64 33,.int .i64 3,.int .i64 5,.slice fa 0 fc,.slice ma 0 mc] 26) (.cells #[.int .u8 4,.int .u8 172] 5);have hcd:=code2 (w1.alloc (.cells #[.int .i64 0,.int .i64 52,.slice pa 6 pc,.int .i64 33,.int .i64 3,.int .i64 5,.slice fa 0 fc,.slice ma 0 mc] 26)) 5;have hzc : (w1.alloc (.cells #[.int .i64 0,.int .i64 52,.slice pa 6 pc,.int .i64 33,.int .i64 3,.int .i64 5,.slice fa 0 fc,.slice ma 0 mc] 26)).heap.size = w1.heap.size + 1:=World.size_alloc _ _;rw [hzc] at hcd;obtain ⟨W2,hW2⟩ : ∃ W,W = (w1.alloc (.cells #[.int .i64 0,.int .i64 52,.slice pa 6 pc,.int .i64 33,.int .i64 3,.int .i64 5,.slice fa 0 fc,.slice ma 0 mc] 26)).alloc (.cells #[.int .u8 4,.int .u8 172] 5):=⟨_,rfl⟩;rw [← hW2] at B2 bC hcd ⊢;have B20:=belows HB1.out B2 HB1.out.size;refine (withF W2 (HT.out.1.below B20 HT.out.1.size) (HT.out.2.below B20 HT.out.2.size) _ (HR1.out.below B2 (Nat.le_refl _)) _ hcd).mono ?_;rintro e w2 ⟨pa2,pc2,fa2,fc2,ma2,mc2,rfl,hO,hb2⟩;have bC2:=bC.below hb2 bC.sz;have HO2:=hid hO;have HC2:=hid bC2;have hcW : w1.heap.size < W2.heap.size:=bC.sz;have B22:=belows B20 hb2 B20.size;have HB2:=hid B22;have hzw : w.heap.size ≤ w1.heap.size:=HB1.out.size;have c0:=bC2.cell 0;have zc0:=bC2.frozen 0;have c1:=bC2.cell 1;have zc1:=bC2.frozen 1;have c2:=bC2.cell 2;have zc2:=bC2.frozen 2;have c3:=bC2.cell 3;have zc3:=bC2.frozen 3;have c4:=bC2.cell 4;have zc4:=bC2.frozen 4;have c5:=bC2.cell 5;have zc5:=bC2.frozen 5;have c6:=bC2.cell 6;have zc6:=bC2.frozen 6;have c7:=bC2.cell 7;have zc7:=bC2.frozen 7;simp at c0 c1 c2 c3 c4 c5 c6 c7;clear hW2 B2 B20 B22 bC bC2 hb2 hO hcd hzc))|(go_at_call 15;(fail_if_success (have _g:=HB3));go_loud (have g8:=grown8 w2 w1.heap.size (.int .i64 0) (.int .i64 52) (.slice pa2 8 pc2) (.int .i64 33) (.int .i64 3) (.int .i64 5) (.slice fa2 0 fc2) (.slice ma2 1 mc2);have bC:=put8 HC2.out rfl (.int .i64 0) (.int .i64 52) (.slice pa2 8 pc2) (.int .i64 33) (.int .i64 3) (.int .i64 5) (.slice fa2 0 fc2) (.slice ma2 1 mc2);have oC:=HO2.out.grown g8 hcW;have B3:=nwB HB2.out g8 ⟨hzw,HB2.out.size⟩;obtain ⟨W3,hW3⟩ : ∃ W,W = ((((((((w2.setCell ⟨w1.heap.size,0,none⟩ (.int .i64 0)).setCell ⟨w1.heap.size,1,none⟩ (.int .i64 52)).setCell ⟨w1.heap.size,2,none⟩ (.slice pa2 8 pc2)).setCell ⟨w1.heap.size,3,none⟩ (.int .i64 33)).setCell ⟨w1.heap.size,4,none⟩ (.int .i64 3)).setCell ⟨w1.heap.size,5,none⟩ (.int .i64 5)).setCell ⟨w1.heap.size,6,none⟩ (.slice fa2 0 fc2)).setCell ⟨w1.heap.size,7,none⟩ (.slice ma2 1 mc2)):=⟨_,rfl⟩;rw [← hW3] at bC oC B3 ⊢;have hR3:=oC.reads szF;refine (encF W3 (HT.out.1.below B3 HT.out.1.size) (HT.out.2.below B3 HT.out.2.size) _ hR3).mono ?_;rintro e w3 ⟨g,gc,rfl,hbs,h0,hb3⟩;have HR3:=hid (hR3.below hb3 (Nat.le_refl _));have HC3:=hid (bC.below hb3 bC.sz);have B33:=belows B3 hb3 B3.size;have HB3:=hid B33;have HBs:=hid hbs;have H0:=hid h0;clear c0 c1 c2 c3 c4 c5 c6 c7 zc0 zc1 zc2 zc3 zc4 zc5 zc6 zc7;have bC3:=HC3.out;obtain ⟨c0,c1,c2,c3,c4,c5,c6,c7⟩:=bC3.cells8;clear hW3 g8 bC oC B3 B33 hb3 hR3 hbs h0 bC3))|(go_at_call 11;(fail_if_success (have _g:=HB4));go_loud (refine (decF w3 (HT.out.1.below HB3.out HT.out.1.size) (HT.out.2.below HB3.out HT.out.2.size) _ HBs.out).mono ?_;rintro e w4 ⟨pa4,pc4,fa4,fc4,ma4,mc4,rfl,hR4,hb4⟩;have HR4:=hid hR4;have HR3:=hid (HR3.out.below hb4 (Nat.le_refl _));have B44:=belows HB3.out hb4 HB3.out.size;have HB4:=hid B44;have bC4:=HC3.out.below hb4 HC3.out.sz;have hcz4 : w1.heap.size < w4.heap.size:=bC4.sz;obtain ⟨gb,hgb⟩ : ∃ x,x = g:=⟨_,rfl⟩;have hgz : g < w3.heap.size:=World.block_lt_of_cell? w3 _ H0.out;have hgz4 : g < w4.heap.size:=Nat.lt_of_lt_of_le hgz hb4.size;have h04:=(hb4.cell (p:=⟨g,0,none⟩) hgz).trans H0.out;clear c0 c1 c2 c3 c4 c5 c6 c7;obtain ⟨c0,c1,c2,c3,c4,c5,c6,c7⟩:=bC4.cells8;clear hgb B44 bC4 hb4 hR4))|(go_at_call 14;go_loud (have B5 : Below w4.heap.size w4 (w4.alloc (.cells #[.int .i64 0,.int .i64 52,.slice pa4 8 pc4,.int .i64 33,.int .i64 3,.int .i64 5,.slice fa4 0 fc4,.slice ma4 1 mc4] 26)):=(Below.refl _ _).alloc (Nat.le_refl _) _;refine (rsame_any Cf.kF _ _ _ (HR3.out.below B5 (Nat.le_refl _)) (HR4.out.below B5 (Nat.le_refl _))).mono ?_;rintro e w5 ⟨rfl,hb5⟩;have bD:=(L3.BX.new w4 #[.int .i64 0,.int .i64 52,.slice pa4 8 pc4,.int .i64 33,.int .i64 3,.int .i64 5,.slice fa4 0 fc4,.slice ma4 1 mc4] 26).below hb5 (L3.BX.new w4 #[.int .i64 0,.int .i64 52,.slice pa4 8 pc4,.int .i64 33,.int .i64 3,.int .i64 5,.slice fa4 0 fc4,.slice ma4 1 mc4] 26).sz;have d7:=bD.cell 7;simp at d7;have B55:=belows (belows HB4.out B5 HB4.out.size) hb5 (by (have:=HB4.out.size;rw [World.size_alloc];omega));have HB5:=hid B55;clear B5 hb5 bD B55)))
 go_ret
 exact ⟨rfl,HB5.out⟩
end Go.Proofs.YtnojgiflgmnjlaaGreatDoor
namespace Go.Proofs.YtnojgiflgmnjlaaGreatDoor
open Go Go.RowKit
def EnR (c : Cf.Cl) (e0 er : Int) (zs : List Int) : Prop:=Cf.ClIs c e0 ∧ ((e0 ≠ 0 ∧ er = e0 ∧ zs = []) ∨ (e0 = 0 ∧ 65536 < (Cf.clB c).length ∧ er = 3 ∧ zs = []) ∨ (e0 = 0 ∧ (Cf.clB c).length ≤ 65536 ∧ er = 0 ∧ zs = Cf.clB c))
theorem EnR.det {c : Cf.Cl} {e0 er e0' er' : Int} {zs zs' : List Int} (h : EnR c e0 er zs) (h' : EnR c e0' er' zs') : e0 = e0' ∧ er = er' ∧ zs = zs':=by
 obtain ⟨h1,h2⟩:=h
 obtain ⟨h1',h2'⟩:=h'
 obtain rfl:=Cf.ClIs.det h1 h1'
 refine ⟨rfl,?_⟩
 rcases h2 with ⟨a,rfl,rfl⟩|⟨a,b,rfl,rfl⟩|⟨a,b,rfl,rfl⟩ <;> rcases h2' with ⟨a',rfl,rfl⟩|⟨a',b',rfl,rfl⟩|⟨a',b',rfl,rfl⟩
 all_goals first|exact ⟨rfl,rfl⟩|exact absurd a a'|exact absurd a' a|omega
theorem EnPost.form {c : Cf.Cl} {w w' : World} {e : Ending} (h : EnPost c w e w') : ∃ e0 er zs v,e = .returned (.tuple #[v,.int .i64 er]) ∧ EnR c e0 er zs ∧ L3.OwnI w' w.heap.size v zs ∧ zs.length ≤ 65536 ∧ Below w.heap.size w w':=by
 obtain ⟨er,hc,h1,h2,hb⟩:=h
 by_cases hz : er = 0
 ·subst hz
  by_cases hl : 65536 < (Cf.clB c).length
  ·exact ⟨0,3,[],_,(h2 rfl).1 hl,⟨hc,.inr (.inl ⟨rfl,hl,rfl,rfl⟩)⟩,L3.nilI _ _,by simp,hb⟩
  ·obtain ⟨v,he,ho⟩:=(h2 rfl).2 (by omega)
   exact ⟨0,0,_,v,he,⟨hc,.inr (.inr ⟨rfl,by omega,rfl,rfl⟩)⟩,ho,by omega,hb⟩
 ·exact ⟨er,er,[],_,h1 hz,⟨hc,.inl ⟨hz,rfl,rfl⟩⟩,L3.nilI _ _,by simp,hb⟩
end Go.Proofs.YtnojgiflgmnjlaaGreatDoor
namespace Go.Proofs.YtnojgiflgmnjlaaGreatDoor
open Go.RowKit
set_option maxHeartbeats 2000000 in
theorem ru2_any (base : Nat) (v : Value) (l ns : List Int) (nb cap : Nat) (w : World) (ho : L3.OwnI w base v l) (hb : base ≤ w.heap.size) (hn : nb < w.heap.size) (hne : ∀ k,v.ownBlock = some k → k ≠ nb)
  (hc : ∀ j n,ns[j]? = some n → w.cell? ⟨nb,j,none⟩ = some (.int .i64 n)) (hl : l.length + 2 * ns.length ≤ 140737488355328) :
  Calls Tryz.prog 46 #[v,.slice (some ⟨nb,0,none⟩) ns.length cap] w fun e w'=>∃ v',e = .returned v' ∧ L3.OwnI w' base v' (l ++ ns.flatMap Cf.w2) ∧ Kit.Grows w w' v v':=by
 obtain ⟨i0,hi,hz0,hz1,hz2⟩:=info_parts infoB
 have HC:=hid hc
 have HO0:=hid ho
 have HNe:=hid hne
 obtain ⟨a0,cp0,rfl⟩:=L3.own_form ho
 clear hc ho hne
 go_enter Tryz.func46,Tryz.ntmps46
 go_wp2
 go_loopw [0,5] (fun u i wr=>∃ j : Nat,i = .int .i64 j ∧ j ≤ ns.length ∧ L3.OwnI wr base u (l ++ (ns.take j).flatMap Cf.w2) ∧ Kit.Grows w wr (.slice a0 l.length cp0) u) (fun _ i _=>ns.length - (intOf i).toNat)
 case atStart=>exact ⟨0,rfl,by omega,by simpa using HO0.out,Kit.Grows.refl _ _⟩
 case round =>
  obtain ⟨j,rfl,hj,HO,HG⟩:=hrel
  have hz:=HG.size
  by_cases hlt : j < ns.length
  ·obtain ⟨n,hx⟩ : ∃ x,ns[j]? = some x:=⟨ns[j],List.getElem?_eq_getElem hlt⟩
   have c0 : wr.cell? ⟨nb,j,none⟩ = some (.int .i64 n):=by rw [HG.cell hn HNe.out];exact HC.out j n hx
   have hji : (j : Int) < (ns.length : Int):=by omega
   have HX:=hid hx
   have HLn:=hid (show (l ++ (ns.take j).flatMap Cf.w2).length = l.length + 2 * j by rw [List.length_append,w2s_len,List.length_take];omega)
   obtain ⟨L,hL⟩ : ∃ L,L = l ++ (ns.take j).flatMap Cf.w2:=⟨_,rfl⟩
   rw [← hL] at HO HLn
   have HLe:=hid hL
   obtain ⟨a1,cp1,rfl⟩:=L3.own_form HO
   have HLs:=hid (show L.length + 2 ≤ 140737488355328 by have:=HLn.out;omega)
   have hnw : nb < wr.heap.size:=by omega
   clear hx hL
   go_wp2_with fail
   go_region_law (refine Kit.step_append_own rfl (.tmp 12) (.tmp 24) 22 rfl base 5 i0 _ 1 1 Tryz.underlying22 hi hz0 hz1 hz2 rfl (by decide) (.slice a1 L.length cp1) L.length (L.map (Value.int .u8)) (by first|with_reducible rfl|simp [go_sem]) (by first|exact (World.ownsRow.alloc (Kit.owns_below HO ((Below.refl wr.heap.size wr).drew) (Nat.le_refl _)) _)|exact World.ownsRow.alloc HO _) ⟨wr.heap.size,0,none⟩ 2 2 [.int .u8 (n / 256 % 256),.int .u8 (n % 256)] (by first|with_reducible rfl|simp [go_sem]|rfl) rfl (by first|exact news_two wr _ _ _|exact news_two wr.drew _ _ _) (by (intro u hu;simp at hu;rcases hu with rfl|rfl <;> rfl)) (by (have:=HLs.out;unfold maxLen;omega)) (by (have:=HLs.out;omega)) (by simp;omega) ?_;intro v1 w1 ho1' hg1 hk1;have ho1:=own2 ho1';have G1 : Kit.Grows wr w1 (.slice a1 L.length cp1) v1:=(by first|exact Kit.grows_append ((Below.refl wr.heap.size wr).alloc (Nat.le_refl _) _) hg1 hk1|exact Kit.grows_append (((Below.refl wr.heap.size wr).drew).alloc (by simp) _) hg1 hk1);clear ho1' hg1 hk1)
   all_goals go_wp2
   all_goals refine ⟨⟨j + 1,by go_num,by omega,?_,HG.trans G1⟩,by simp [intOf];omega⟩
   all_goals rw [List.take_add_one,HX.out,Option.toList_some,List.flatMap_append,← List.append_assoc,← HLe.out]
   all_goals simpa [Cf.w2] using ho1
  ·obtain rfl : j = ns.length:=by omega
   rw [List.take_length] at HO
   obtain ⟨a1,cp1,hv1⟩:=L3.own_form HO
   subst hv1
   go_wp2
   go_ret
   exact ⟨_,rfl,HO,HG⟩
set_option maxHeartbeats 1000000 in
theorem ru4_any (base : Nat) (v : Value) (l : List Int) (n : Int) (w : World) (ho : L3.OwnI w base v l) (hb : base ≤ w.heap.size) (h0 : ∀ k,v.ownBlock = some k → k < w.heap.size) (hl : l.length + 4 ≤ 140737488355328) :
  Calls Tryz.prog 47 #[v,.int .i64 n] w fun e w'=>∃ v',e = .returned v' ∧ L3.OwnI w' base v' (l ++ Cf.w4 n) ∧ Kit.Grows w w' v v':=by
 have HU:=hid (ru2_any base v l [n / 65536,n] w.heap.size 2 (w.alloc (.cells #[.int .i64 (n / 65536),.int .i64 n] 3)) (World.ownsRow.alloc ho _) (by simp;omega) (by simp) (fun k hk=>by have:=h0 k hk;omega)
  (fun j x hx=>by
   rw [(L3.BX.new w #[.int .i64 (n / 65536),.int .i64 n] 3).cell]
   match j,hx with
   | 0,hx=>simp at hx;subst hx;rfl
   | 1,hx=>simp at hx;subst hx;rfl) (by simpa using hl))
 obtain ⟨a0,cp0,rfl⟩:=L3.own_form ho
 clear ho
 go_enter Tryz.func47,Tryz.ntmps47
 go_wp2_with (go_at_call 46;refine HU.out.mono ?_;rintro e w1 ⟨v1,rfl,o1,g1⟩;obtain ⟨a1,k1,cp1,rfl⟩:=own_form3 o1)
 go_ret
 exact ⟨_,rfl,by simpa [Cf.w4] using o1,((Kit.Grows.refl w _).below ((Below.refl _ _).alloc (Nat.le_refl _) _)).trans g1⟩
theorem ru2_lit (w0 : World) (v : Value) (l ns : List Int) (vals : Array Value) (T : TypeId) (cap : Nat) (W0 : World) (h : Wr w0 W0 v l) (hv : vals.toList = ns.map (Value.int .i64)) (hl : l.length + 2 * ns.length ≤ 140737488355328) :
  Calls Tryz.prog 46 #[v,.slice (some ⟨W0.heap.size,0,none⟩) ns.length cap] (W0.alloc (.cells vals T)) (WP w0 W0 v (l ++ ns.flatMap Cf.w2)):=by
 refine (ru2_any w0.heap.size v l ns W0.heap.size cap (W0.alloc (.cells vals T)) (World.ownsRow.alloc h.1 _) (by have:=h.2.size;rw [World.size_alloc];omega) (by rw [World.size_alloc];omega) (fun k hk=>by have:=Kit.own_lt h.1 k hk;omega) (fun j n hj=>?_) hl).mono ?_
 ·rw [(L3.BX.new W0 vals T).cell,← Array.getElem?_toList,hv,List.getElem?_map,hj]
  rfl
 ·rintro e w' ⟨v',rfl,h1,h2⟩
  have hG : Kit.Grows W0 w' v v':=((Kit.Grows.refl W0 v).below ((Below.refl _ _).alloc (Nat.le_refl _) _)).trans h2
  exact ⟨v',rfl,h.grow h1 hG,hG⟩
theorem ru4_wr (w0 : World) (v : Value) (l : List Int) (n : Int) (w : World) (h : Wr w0 w v l) (hl : l.length + 4 ≤ 140737488355328) :
  Calls Tryz.prog 47 #[v,.int .i64 n] w (WP w0 w v (l ++ Cf.w4 n)):=by
 refine (ru4_any w0.heap.size v l n w h.1 h.2.size (fun k hk=>Kit.own_lt h.1 k hk) hl).mono ?_
 rintro e w' ⟨v',rfl,h1,h2⟩
 exact ⟨v',rfl,h.grow h1 h2,h2⟩
end Go.Proofs.YtnojgiflgmnjlaaGreatDoor
namespace Go.Proofs.YtnojgiflgmnjlaaGreatDoor
open Go.RowKit
theorem ru2_k (w0 : World) (v : Value) (l ns : List Int) (vals : Array Value) (T : TypeId) (k cap b : Nat) (W0 : World) (h : Wr w0 W0 v l) (hv : vals.toList = ns.map (Value.int .i64)) (hl : l.length + 2 * k ≤ 140737488355328) (hk : ns.length = k) (hb : b = W0.heap.size) :
  Calls Tryz.prog 46 #[v,.slice (some ⟨b,0,none⟩) k cap] (W0.alloc (.cells vals T)) (WP w0 W0 v (l ++ ns.flatMap Cf.w2)):=by
 subst hk hb
 exact ru2_lit w0 v l ns vals T cap W0 h hv hl
theorem own_base_le {w : World} {base base' : Nat} {v : Value} {l : List Int} (h : L3.OwnI w base v l) (hb : base' ≤ base) : L3.OwnI w base' v l:=by
 refine ⟨h.1,?_⟩
 rcases h.2 with h2|⟨g,cap,cur,hv,hge,hh,r⟩
 ·exact .inl h2
 ·exact .inr ⟨g,cap,cur,hv,Nat.le_trans hb hge,hh,r⟩
set_option maxHeartbeats 4000000 in
theorem rbody_any (m : Cf.Mb) (cv hv : Value) (w : World) (hB : L3.Bs w.heap.size w cv m.code) (hH : Kit.IsS 4 w hv m.hs.length (m.hs.flatMap hL)) (hc : 0 < m.code.length) (hl : m.code.length + 8 * m.hs.length ≤ 1099511627776) :
  Calls Tryz.prog 49 #[mbV m cv hv] w fun e w'=>∃ v,e = .returned v ∧ L3.OwnI w' w.heap.size v (Cf.attrB m) ∧ Below w.heap.size w w':=by
 obtain ⟨i0,hi,hz0,hz1,hz2⟩:=info_parts infoB
 obtain ⟨xb,xo,xc,rfl,hxb,hxc⟩:=bs_some hB hc
 obtain ⟨ya,yc,rfl⟩:=hH.len
 have HS:=hid hH
 have HL:=hid hl
 have HXC:=hid hxc
 have HAp:=hid (attr_parts m)
 obtain ⟨AL,hAL⟩ : ∃ L,L = Cf.attrB m:=⟨_,rfl⟩
 rw [← hAL] at HAp ⊢
 clear hAL
 obtain ⟨ac,nm,ds,st,lc,co,hs9⟩:=m
 dsimp only at HS HL HXC hc HAp hl
 unfold mbV
 dsimp only
 have hcl : co.length ≤ 1099511627776:=by omega
 have hhl : hs9.length ≤ 1099511627776:=by omega
 clear hB hH hl hxc
 go_enter Tryz.func49,Tryz.ntmps49
 go_wp2_with fail
 refine region_named fun W1 hW1=>?_
 have bX : L3.BX W1 w.heap.size #[.int .i64 ac,.int .i64 nm,.int .i64 ds,.int .i64 st,.int .i64 lc,.slice (some ⟨xb,xo,none⟩) co.length xc,.slice ya hs9.length yc] 42:=by rw [hW1];exact L3.BX.new _ _ _
 have BW : Hid (Below w.heap.size w W1):=by show Below _ _ _;rw [hW1];exact (Below.refl _ _).alloc (Nat.le_refl _) _
 have BX:=hid bX
 have HS1:=hid (HS.out.below BW.out (Nat.le_refl _))
 have m3:=bX.cell 3
 have m4:=bX.cell 4
 have m5:=bX.cell 5
 have m6:=bX.cell 6
 simp at m3 m4 m5 m6
 clear hW1 bX
 go_region_held3 (fun w'=>w'.cell? ⟨w.heap.size,3,none⟩ = some (.int .i64 st) ∧ w'.cell? ⟨w.heap.size,4,none⟩ = some (.int .i64 lc) ∧ w'.cell? ⟨w.heap.size,5,none⟩ = some (.slice (some ⟨xb,xo,none⟩) co.length xc))
  (first|exact ⟨m3,m4,m5⟩|go_keep)
  (first|(go_at_call 47;have _g:=HA1;(fail_if_success (have _g:=HA2));refine (wpo (ru4_wr W1 _ _ _ _ HA1.out (by (have:=HE1.out;omega)))).mono ?_;rintro e W2 ⟨v2,L2,rfl,h2,HL2,g2⟩;have HE2:=hid (show L2.length = 8 from by (rw [HL2.out,List.length_append,HE1.out,Cf.w4_len]));obtain ⟨a2,c2,rfl⟩:=L3.own_form h2.1;have HB9:=h2.2;(have bX:=BX.out.below HB9 BX.out.sz;clear m3 m4 m5 m6;have m3:=bX.cell 3;have m4:=bX.cell 4;have m5:=bX.cell 5;have m6:=bX.cell 6;simp at m3 m4 m5 m6;clear bX HB9);have HA2:=hid h2;clear h2 g2)|(go_at_call 46;(fail_if_success (have _g:=HA1));refine (wpo (ru2_k W1 _ [] [st,lc] _ _ 2 2 _ W1.drew (Wr.nil W1 W1.drew ((Below.refl _ _).drew)) rfl (by decide) rfl rfl)).mono ?_;rintro e Wa ⟨v1,L1,rfl,h1,HL1,g1⟩;have HE1:=hid (show L1.length = 4 from by (rw [HL1.out];rfl));obtain ⟨a1,k1,c1,rfl⟩:=own_form3 h1.1;have HB9:=h1.2;(have bX:=BX.out.below HB9 BX.out.sz;clear m3 m4 m5 m6;have m3:=bX.cell 3;have m4:=bX.cell 4;have m5:=bX.cell 5;have m6:=bX.cell 6;simp at m3 m4 m5 m6;clear bX HB9);have HA1:=hid h1;clear h1 g1)|(have _g:=HA2;refine Kit.step_append_own rfl (.tmp 15) (.tmp 17) 22 rfl W1.heap.size 5 i0 _ 1 1 Tryz.underlying22 hi hz0 hz1 hz2 rfl (by decide) (.slice a2 L2.length c2) L2.length (L2.map (Value.int .u8)) rfl HA2.out.1 ⟨xb,xo,none⟩ co.length xc (co.map L3.bv) rfl (by rw [List.length_map,Nat.mul_one]) (fun j u hj=>by (rw [add_at];exact ((belows BW.out HA2.out.2 BW.out.size).cell (p:=⟨xb,xo + j,none⟩) (by simpa using hxb)).trans (HXC.out j u hj))) (ones_b co) (by (have:=HE2.out;unfold maxLen;omega)) (by (have:=HE2.out;omega)) HA2.out.2.size ?_;intro v3 W3 ho3 hg3 hk3;obtain ⟨Lc,HL3,h3⟩:=Wr.opq (HA2.out.grow (own_app (cB_vals co) (by simp [Cf.cB]) ho3) (Kit.grows_append (Below.refl _ _) hg3 hk3));have HE3:=hid (show Lc.length = 8 + co.length from by (rw [HL3.out,List.length_append,HE2.out];simp [Cf.cB]));obtain ⟨a3,k3,c3,rfl⟩:=own_form3 h3.1;have HB9:=h3.2;(have bX:=BX.out.below HB9 BX.out.sz;clear m3 m4 m5 m6;have m3:=bX.cell 3;have m4:=bX.cell 4;have m5:=bX.cell 5;have m6:=bX.cell 6;simp at m3 m4 m5 m6;clear bX HB9);have HA3:=hid h3;clear h3 ho3 hg3 hk3))
 go_wp2_with (go_at_call 46;(fail_if_success (have _g:=HA4));refine (wpo (ru2_k W1 _ Lc [(hs9.length : Int)] _ _ 1 1 _ W3 HA3.out rfl (by (have:=HE3.out;omega)) rfl rfl)).mono ?_;rintro e W4 ⟨v4,L4,rfl,h4,HL4,g4⟩;have HE4:=hid (show L4.length = 10 + co.length from by (rw [HL4.out,List.length_append,HE3.out,w2_one,Cf.w2_len];omega));obtain ⟨a4,k4,c4,rfl⟩:=own_form3 h4.1;have HB9:=h4.2;(have bX:=BX.out.below HB9 BX.out.sz;clear m3 m4 m5 m6;have m3:=bX.cell 3;have m4:=bX.cell 4;have m5:=bX.cell 5;have m6:=bX.cell 6;simp at m3 m4 m5 m6;clear bX HB9);have HA4:=hid h4;clear h4 g4)
 clear m3 m4 m5 m6
 have HE5:=hid (show L4.length ≤ 1099511627776 * 2 by rw [HE4.out];omega)
 go_loopw [3,4] (fun u i wr=>∃ k : Nat,k ≤ hs9.length ∧ i = .int .i64 k ∧ Hid (Wr W1 wr u (L4 ++ (hs9.take k).flatMap Cf.hnB))) (fun _ i _=>hs9.length - (intOf i).toNat)
 case atStart=>exact ⟨0,by omega,rfl,hid (by simpa using HA4.out)⟩
 case round =>
  obtain ⟨k,hk,rfl,HR⟩:=hrel
  obtain ⟨a2',k2',cp2',rfl⟩:=own_form3 HR.out.1
  have bX:=BX.out.below HR.out.2 BX.out.sz
  have m6:=bX.cell 6
  simp at m6
  have hzb:=bX.sz
  clear bX
  by_cases hlt : k < hs9.length
  ·obtain ⟨x,hx⟩ : ∃ x,hs9[k]? = some x:=⟨hs9[k],List.getElem?_eq_getElem hlt⟩
   obtain ⟨b,o,cap',hv2,hb,c0,c1,c2',c3'⟩:=h_at (HS1.out.below HR.out.2 (Nat.le_refl _)) hx
   obtain ⟨rfl,-,rfl⟩:=Value.slice.inj hv2
   have HX:=hid hx
   have hki : (k : Int) < (hs9.length : Int):=by omega
   obtain ⟨xf,xt,xa,xy⟩:=x
   dsimp only at c0 c1 c2' c3'
   have HLn:=hid (show (L4 ++ (hs9.take k).flatMap Cf.hnB).length + 2 * 4 ≤ 140737488355328 by rw [List.length_append,hns_len,List.length_take];have:=HE5.out;omega)
   have HT:=hid (take_flat (f:=Cf.hnB) HX.out)
   have HWa:=hid (HR.out.alloc (.cells #[.int .i64 xf,.int .i64 xt,.int .i64 xa,.int .i64 xy] 58))
   obtain ⟨L,hL⟩ : ∃ L,L = L4 ++ (hs9.take k).flatMap Cf.hnB:=⟨_,rfl⟩
   rw [← hL] at HLn HWa
   have HLe:=hid hL
   clear hx hv2 hL
   go_wp2_with (go_at_call 46;refine (wpo (ru2_k W1 _ L [xf,xt,xa,xy] _ _ 4 4 _ _ HWa.out rfl HLn.out rfl (World.size_alloc _ _).symm)).mono ?_;rintro e w2 ⟨v2,L2',rfl,h2,HL2',g2⟩;have H2:=hid h2;clear h2 g2)
   go_roundw
   case rel=>exact ⟨k + 1,by omega,by go_num,hid (by rw [HT.out,← List.append_assoc,← HLe.out];have h9:=H2.out;rw [HL2'.out] at h9;exact h9)⟩
   case measure=>simp [intOf];omega
  ·obtain rfl : k = hs9.length:=by omega
   have H9:=HR.out
   rw [List.take_length] at H9
   have H9:=hid H9
   have HLn:=hid (show (L4 ++ hs9.flatMap Cf.hnB).length + 2 * 1 ≤ 140737488355328 by rw [List.length_append,hns_len];have:=HE5.out;omega)
   have hki : ¬ ((hs9.length : Int) < (hs9.length : Int)):=by omega
   clear HR
   go_wp2_with (go_at_call 46;refine (wpo (ru2_k W1 _ _ [(0 : Int)] _ _ 1 1 _ _ H9.out rfl HLn.out rfl rfl)).mono ?_;rintro e W5 ⟨v5,L5,rfl,h5,HL5,g5⟩;have H5:=hid h5;clear h5 g5)
   obtain ⟨a9,k9,c9,rfl⟩:=own_form3 H5.out.1
   go_ret
   refine ⟨_,rfl,?_,belows BW.out H5.out.2 BW.out.size⟩
   have e5 : L5 = AL:=by
    rw [HL5.out,HL4.out,HL3.out,HL2.out,HL1.out]
    have:=HAp.out
    simpa [w2_one] using this
   subst e5
   exact own_base_le H5.out.1 BW.out.size
end Go.Proofs.YtnojgiflgmnjlaaGreatDoor
namespace Go.Proofs.YtnojgiflgmnjlaaGreatDoor
open Go.RowKit
theorem ru2_c (w0 : World) (v : Value) (l ns : List Int) (k cap nb : Nat) (W : World) (h : Wr w0 W v l) (hn : nb < W.heap.size) (hne : ∀ k,v.ownBlock = some k → k ≠ nb) (hc : ∀ j n,ns[j]? = some n → W.cell? ⟨nb,j,none⟩ = some (.int .i64 n)) (hl : l.length + 2 * k ≤ 140737488355328) (hk : ns.length = k) :
  Calls Tryz.prog 46 #[v,.slice (some ⟨nb,0,none⟩) k cap] W (WP w0 W v (l ++ ns.flatMap Cf.w2)):=by
 subst hk
 refine (ru2_any w0.heap.size v l ns nb cap W h.1 h.2.size hn hne hc hl).mono ?_
 rintro e w' ⟨v',rfl,h1,h2⟩
 exact ⟨v',rfl,h.grow h1 h2,h2⟩
theorem cells2 {W : World} {nb : Nat} {a b : Int} (h0 : W.cell? ⟨nb,0,none⟩ = some (.int .i64 a)) (h1 : W.cell? ⟨nb,1,none⟩ = some (.int .i64 b)) : ∀ j n,[a,b][j]? = some n → W.cell? ⟨nb,j,none⟩ = some (.int .i64 n):=by
 intro j n hj
 match j,hj with
 | 0,hj=>simp at hj;subst hj;exact h0
 | 1,hj=>simp at hj;subst hj;exact h1
theorem cells5 {W : World} {nb : Nat} {a b c d e : Int} (h0 : W.cell? ⟨nb,0,none⟩ = some (.int .i64 a)) (h1 : W.cell? ⟨nb,1,none⟩ = some (.int .i64 b)) (h2 : W.cell? ⟨nb,2,none⟩ = some (.int .i64 c)) (h3 : W.cell? ⟨nb,3,none⟩ = some (.int .i64 d)) (h4 : W.cell? ⟨nb,4,none⟩ = some (.int .i64 e)) : ∀ j n,[a,b,c,d,e][j]? = some n → W.cell? ⟨nb,j,none⟩ = some (.int .i64 n):=by
 intro j n hj
 match j,hj with
 | 0,hj=>simp at hj;subst hj;exact h0
 | 1,hj=>simp at hj;subst hj;exact h1
 | 2,hj=>simp at hj;subst hj;exact h2
 | 3,hj=>simp at hj;subst hj;exact h3
 | 4,hj=>simp at hj;subst hj;exact h4
set_option maxHeartbeats 8000000 in
theorem rencode_any (c : Cf.Cl) (vs : Array Value) (w : World) (h : ClR w vs c) (hs : ∀ x ∈ c.pool,x.s.size ≤ 140737488355328 ∧ L3.I6 x.n) : Calls Tryz.prog 16 #[.agg vs] w (EnPost c w):=by
 obtain ⟨i0,hi,hz0,hz1,hz2⟩:=info_parts infoB
 have HC:=hid (fun W (k : Below w.heap.size w W)=>rcheck04_any c vs W (h.below k (Nat.le_refl _)) hs)
 obtain ⟨pv,fv,mv,rfl,hp,hf,hm⟩:=h
 have HP:=hid (fun W (k : Below w.heap.size w W)=>L3.rput_any c.pool pv W (hp.below k (Nat.le_refl _)) hs)
 have HCo:=hid (fun W (k : Below w.heap.size w W)=>rcodes_any c.pool pv W (hp.below k (Nat.le_refl _)))
 have HFM:=hid (And.intro hf hm)
 have HCb:=hid (cl_bytes c)
 have HSz:=hid (@Cf.cl_sizes c)
 obtain ⟨pa,pc,rfl⟩:=hp.len
 obtain ⟨fa,fc,rfl⟩:=hf.len
 obtain ⟨ma2,mc,rfl⟩:=hm.len
 have HEr:=hid (fun er (hR : Cf.ClIs c er) (hz : er ≠ 0) (e : Ending) (w' : World) (he : e = .returned (.tuple #[.slice none 0 0,.int .i64 er])) (hb : Below w.heap.size w w')=>(show EnPost c w e w' from ⟨er,hR,fun _=>he,fun e0=>absurd e0 hz,hb⟩))
 have HOk:=hid (fun (hR : Cf.ClIs c 0) (e : Ending) (w' : World) (h1 : 65536 < (Cf.clB c).length → e = .returned (.tuple #[.slice none 0 0,.int .i64 3])) (h2 : (Cf.clB c).length ≤ 65536 → ∃ v,e = .returned (.tuple #[v,.int .i64 0]) ∧ L3.OwnI w' w.heap.size v (Cf.clB c)) (hb : Below w.heap.size w w')=>(show EnPost c w e w' from ⟨0,hR,fun e0=>absurd rfl e0,fun _=>⟨h1,h2⟩,hb⟩))
 obtain ⟨mi,ma,P,ac,th,su,fs,ms⟩:=c
 unfold L3.PutPost at HP
 dsimp only at HP HCo HFM HCb HSz HC ⊢
 obtain ⟨B,hB⟩ : ∃ B,B = Cf.clB ⟨mi,ma,P,ac,th,su,fs,ms⟩:=⟨_,rfl⟩
 rw [← hB] at HCb HOk
 obtain ⟨Q,hQ⟩ : ∃ Q,Q = EnPost ⟨mi,ma,P,ac,th,su,fs,ms⟩ w:=⟨_,rfl⟩
 rw [← hQ] at HEr HOk ⊢
 clear hp hf hm hs hB hQ
 show Calls _ _ _ _ fun e w'=>Q e w'
 go_enter Tryz.func16,Tryz.ntmps16
 go_upto_region 4 with (go_at_call 18;refine (HC.out _ BLw).mono ?_;rintro e w1 ⟨er,hR,rfl,hb1⟩;obtain ⟨bC,hzC,B1⟩:=belows1 hb1;have HR:=hid hR;obtain ⟨q0,q1,q2,q3,q4,q5,q6,q7⟩:=bC.cells8;have BX:=hid bC;have BB:=hid B1;clear hb1 bC B1;by_cases hz : er = 0;all_goals (first|(subst hz;clear hR)|(have hdd : (er != 0) = true:=(by simpa using hz);have HZ:=hid hz;clear hz hR)))
 rotate_left 1
 ·exact HEr.out er HR.out HZ.out _ _ rfl BB.out
 go_cut [5] (fun b wx=>∃ L2 : List Int,Wr w1 wx b L2 ∧ Hid (L2 = [] ++ Cf.w4 3405691582 ++ [mi,ma].flatMap Cf.w2))
 case first =>
  go_region_held3 (fun w'=>w'.cell? ⟨w.heap.size,0,none⟩ = some (.int .i64 mi) ∧ w'.cell? ⟨w.heap.size,1,none⟩ = some (.int .i64 ma))
   (first|exact ⟨q0,q1⟩|go_keep)
   (first|(go_at_call 47;first|(refine (wpo (ru4_wr w1 _ [] _ w1.drew (Wr.nil w1 w1.drew ((Below.refl _ _).drew)) (by decide))).mono ?_;rintro e Wa ⟨v1,L1,rfl,h1,HL1,g1⟩;have HE1:=hid (show L1.length = 4 from by (rw [HL1.out];rfl));obtain ⟨a1,k1,c1,rfl⟩:=own_form3 h1.1;have HB9:=h1.2;(have bX:=BX.out.below HB9 BX.out.sz;clear q0 q1 q2 q3 q4 q5 q6 q7;obtain ⟨q0,q1,q2,q3,q4,q5,q6,q7⟩:=bX.cells8;clear bX HB9);have HA1:=hid h1;clear h1 g1)|(refine (wpo (ru4_wr w1 _ [] _ (w1.drew.alloc (.cells #[.int .i64 mi,.int .i64 ma] 3)) (Wr.nil w1 _ (((Below.refl _ _).drew).alloc (by simp) _)) (by decide))).mono ?_;rintro e Wa ⟨v1,L1,rfl,h1,HL1,g1⟩;have HE1:=hid (show L1.length = 4 from by (rw [HL1.out];rfl));have j0:=(g1.cell (b:=w1.heap.size) (by simp) (by intro k hk;cases hk) 0).trans (show _ = some (.int .i64 mi) by simp [go_sem]);have j1:=(g1.cell (b:=w1.heap.size) (by simp) (by intro k hk;cases hk) 1).trans (show _ = some (.int .i64 ma) by simp [go_sem]);have HNe:=hid (hne_grow g1 (pb:=w1.heap.size) (by simp) (by intro k hk;cases hk));have HZs:=hid (show w1.heap.size < Wa.heap.size by (have:=g1.size;simp at this;omega));obtain ⟨a1,k1,c1,rfl⟩:=own_form3 h1.1;have HB9:=h1.2;(have bX:=BX.out.below HB9 BX.out.sz;clear q0 q1 q2 q3 q4 q5 q6 q7;obtain ⟨q0,q1,q2,q3,q4,q5,q6,q7⟩:=bX.cells8;clear bX HB9);have HA1:=hid h1;clear h1 g1))|(go_at_call 46;have _g:=HA1;(fail_if_success (have _g:=HA2));(first|(have _g:=HNe;refine (wpo (ru2_c w1 _ L1 [mi,ma] 2 2 w1.heap.size Wa HA1.out HZs.out HNe.out (cells2 j0 j1) (by (have:=HE1.out;omega)) rfl)).mono ?_)|(refine (wpo (ru2_k w1 _ L1 [mi,ma] _ _ 2 2 _ Wa HA1.out rfl (by (have:=HE1.out;omega)) rfl rfl)).mono ?_));rintro e W2 ⟨v2,L2,rfl,h2,HL2,g2⟩;have HE2:=hid (show L2.length = 8 from by (rw [HL2.out,List.length_append,HE1.out];rfl));obtain ⟨a2,c2,rfl⟩:=L3.own_form h2.1;have HB9:=h2.2;(have bX:=BX.out.below HB9 BX.out.sz;clear q0 q1 q2 q3 q4 q5 q6 q7;obtain ⟨q0,q1,q2,q3,q4,q5,q6,q7⟩:=bX.cells8;clear bX HB9);have HA2:=hid h2;clear h2 g2))
  all_goals
   go_wp2_with fail
   go_meet
   exact ⟨_,HA2.out,hid (by rw [HL2.out,HL1.out])⟩
 case rest =>
  obtain ⟨L2,h2,HL2⟩:=hcut
  have HE2:=hid (show L2.length = 8 from by rw [HL2.out];rfl)
  obtain ⟨a2,c2,rfl⟩:=L3.own_form h2.1
  have HB9:=h2.2
  (have bX:=BX.out.below HB9 BX.out.sz;clear q0 q1 q2 q3 q4 q5 q6 q7;obtain ⟨q0,q1,q2,q3,q4,q5,q6,q7⟩:=bX.cells8;clear bX HB9)
  have HA2:=hid h2
  clear h2
  go_upto_region 8 with (go_at_call 48;refine (HP.out _ (belows BB.out HA2.out.2 BB.out.size)).mono ?_;rintro e W3 ⟨pk,hck,-,h3,hb3⟩;obtain rfl:=hck.det (HSz.out HR.out).2.2.1;obtain ⟨vp,rfl,hop⟩:=h3 rfl;have HPm:=hid (putB_max hck);obtain ⟨pg,pcap,rfl,hpg,hpc⟩:=own_some hop (putB_pos _);have HPC:=hid hpc;have h3:=HA2.out.below hb3;have HB9:=h3.2;(have bX:=BX.out.below HB9 BX.out.sz;clear q0 q1 q2 q3 q4 q5 q6 q7;obtain ⟨q0,q1,q2,q3,q4,q5,q6,q7⟩:=bX.cells8;clear bX HB9);have HA3:=hid h3;clear hck h3 hb3 hop hpc)
  go_cut [5] (fun b wx=>∃ L5 : List Int,Wr w1 wx b L5 ∧ Hid (L5 = L2 ++ L3.putB P ++ [ac,th,su,0,(fs.length : Nat)].flatMap Cf.w2))
  case first =>
   go_region_held3 (fun w'=>w'.cell? ⟨w.heap.size,3,none⟩ = some (.int .i64 ac) ∧ w'.cell? ⟨w.heap.size,4,none⟩ = some (.int .i64 th) ∧ w'.cell? ⟨w.heap.size,5,none⟩ = some (.int .i64 su) ∧ w'.cell? ⟨w.heap.size,6,none⟩ = some (.slice fa fs.length fc))
    (first|exact ⟨q3,q4,q5,q6⟩|go_keep)
    (first|(go_at_call 46;have _g:=HA4;(fail_if_success (have _g:=HA5));(first|(have _g:=HNf;refine (wpo (ru2_c w1 _ L4 [ac,th,su,0,(fs.length : Nat)] 5 5 W3.heap.size W4 HA4.out HZf.out HNf.out (cells5 j0 j1 j2 j3 j4) (by (have:=HE4.out;have:=HPm.out;omega)) rfl)).mono ?_)|(refine (wpo (ru2_k w1 _ L4 [ac,th,su,0,(fs.length : Nat)] _ _ 5 5 _ W4 HA4.out rfl (by (have:=HE4.out;have:=HPm.out;omega)) rfl rfl)).mono ?_));rintro e W5 ⟨v5,L5,rfl,h5,HL5,g5⟩;have HE5:=hid (show L5.length = 18 + (L3.putB P).length from by (rw [HL5.out,List.length_append,HE4.out];show _ + 10 = _;omega));obtain ⟨a5,c5,rfl⟩:=L3.own_form h5.1;have HB9:=h5.2;(have bX:=BX.out.below HB9 BX.out.sz;clear q0 q1 q2 q3 q4 q5 q6 q7;obtain ⟨q0,q1,q2,q3,q4,q5,q6,q7⟩:=bX.cells8;clear bX HB9);have HA5:=hid h5;clear h5 g5)|((fail_if_success (have _g:=HA4));refine Kit.step_append_own rfl (.tmp 34) (.tmp 35) 22 rfl w1.heap.size 5 i0 _ 1 1 Tryz.underlying22 hi hz0 hz1 hz2 rfl (by decide) (.slice a2 L2.length c2) L2.length (L2.map (Value.int .u8)) rfl (by first|exact (HA3.out.below ((Below.refl W3.heap.size W3).drew)).1|exact (HA3.out.below (((Below.refl W3.heap.size W3).drew).alloc (by simp) (.cells #[.int .i64 ac,.int .i64 th,.int .i64 su,.int .i64 0,.int .i64 (fs.length : Nat)] 3))).1) ⟨pg,0,none⟩ (L3.putB P).length pcap ((L3.putB P).map (Value.int .u8)) rfl (by rw [List.length_map,Nat.mul_one]) (fun j u hj=>by (rw [add_at,Nat.zero_add];have h9:=HPC.out j u hj;rw [add_at,Nat.zero_add] at h9;first|exact ((((Below.refl W3.heap.size W3).drew)).cell (p:=⟨pg,j,none⟩) (by simpa using hpg)).trans h9|exact (((((Below.refl W3.heap.size W3).drew).alloc (by simp) (.cells #[.int .i64 ac,.int .i64 th,.int .i64 su,.int .i64 0,.int .i64 (fs.length : Nat)] 3))).cell (p:=⟨pg,j,none⟩) (by simpa using hpg)).trans h9)) (ones_i _) (by (have:=HE2.out;have:=HPm.out;unfold maxLen;omega)) (by (have:=HE2.out;have:=HPm.out;omega)) (by (have:=HA3.out.2.size;simp;try omega)) ?_;intro v4 W4 ho4 hg4 hk4;(first|(have g4 : Kit.Grows W3.drew W4 (.slice a2 L2.length c2) v4:=Kit.grows_append (Below.refl _ _) hg4 hk4;have h4x:=(HA3.out.below ((Below.refl W3.heap.size W3).drew)).grow (own_app rfl (by simp) ho4) g4)|(have g4 : Kit.Grows (W3.drew.alloc (.cells #[.int .i64 ac,.int .i64 th,.int .i64 su,.int .i64 0,.int .i64 (fs.length : Nat)] 3)) W4 (.slice a2 L2.length c2) v4:=Kit.grows_append (Below.refl _ _) hg4 hk4;have h4x:=(HA3.out.below (((Below.refl W3.heap.size W3).drew).alloc (by simp) (.cells #[.int .i64 ac,.int .i64 th,.int .i64 su,.int .i64 0,.int .i64 (fs.length : Nat)] 3))).grow (own_app rfl (by simp) ho4) g4;have hlt9 : ∀ k,(Value.slice a2 L2.length c2).ownBlock = some k → k ≠ W3.heap.size:=(by (intro k hk;have:=Kit.own_lt HA3.out.1 k hk;omega));have j0:=(g4.cell (b:=W3.heap.size) (by simp) hlt9 0).trans (show _ = some (.int .i64 ac) by simp [go_sem]);have j1:=(g4.cell (b:=W3.heap.size) (by simp) hlt9 1).trans (show _ = some (.int .i64 th) by simp [go_sem]);have j2:=(g4.cell (b:=W3.heap.size) (by simp) hlt9 2).trans (show _ = some (.int .i64 su) by simp [go_sem]);have j3:=(g4.cell (b:=W3.heap.size) (by simp) hlt9 3).trans (show _ = some (.int .i64 0) by simp [go_sem]);have j4:=(g4.cell (b:=W3.heap.size) (by simp) hlt9 4).trans (show _ = some (.int .i64 (fs.length : Nat)) by simp [go_sem]);have HNf:=hid (hne_grow g4 (pb:=W3.heap.size) (by simp) hlt9);have HZf:=hid (show W3.heap.size < W4.heap.size by (have:=g4.size;simp at this;omega))));obtain ⟨L4,HL4,h4⟩:=Wr.opq h4x;have HE4:=hid (show L4.length = 8 + (L3.putB P).length from by (rw [HL4.out,List.length_append,HE2.out]));obtain ⟨a4,k4,c4,rfl⟩:=own_form3 h4.1;have HB9:=h4.2;(have bX:=BX.out.below HB9 BX.out.sz;clear q0 q1 q2 q3 q4 q5 q6 q7;obtain ⟨q0,q1,q2,q3,q4,q5,q6,q7⟩:=bX.cells8;clear bX HB9);have HA4:=hid h4;clear h4 ho4 hg4 hk4 g4 h4x))
   all_goals
    go_wp2_with fail
    go_meet
    exact ⟨_,HA5.out,hid (by rw [HL5.out,HL4.out])⟩
  case rest =>
   obtain ⟨L5,h5,HL5⟩:=hcut
   have HE5:=hid (show L5.length = 18 + (L3.putB P).length from by rw [HL5.out,List.length_append,List.length_append,HE2.out];show _ + 10 = _;omega)
   obtain ⟨a5,c5,rfl⟩:=L3.own_form h5.1
   have HB9:=h5.2
   (have bX:=BX.out.below HB9 BX.out.sz;clear q0 q1 q2 q3 q4 q5 q6 q7;obtain ⟨q0,q1,q2,q3,q4,q5,q6,q7⟩:=bX.cells8;clear bX HB9)
   have HA5:=hid h5
   clear h5
   go_wp2_with fail
   go_loopw [5,8] (fun u i wr=>∃ k : Nat,k ≤ fs.length ∧ i = .int .i64 k ∧ Hid (Wr w1 wr u (L5 ++ (fs.take k).flatMap Cf.fdB))) (fun _ i _=>fs.length - (intOf i).toNat)
   case atStart=>exact ⟨0,by omega,rfl,hid (by simpa using HA5.out)⟩
   case round =>
    obtain ⟨k,hk,rfl,HRr⟩:=hrel
    have HW0:=HRr
    have hf256:=(HSz.out HR.out).1
    have HB9:=HRr.out.2
    have hzb0:=BX.out.sz
    have hzw:=HB9.size
    (have bX:=BX.out.below HB9 BX.out.sz;clear q0 q1 q2 q3 q4 q5 q6 q7;obtain ⟨q0,q1,q2,q3,q4,q5,q6,q7⟩:=bX.cells8;clear bX HB9)
    obtain ⟨au,ku,cu,rfl⟩:=own_form3 HRr.out.1
    by_cases hlt : k < fs.length
    ·obtain ⟨⟨xac,xnm,xds,xst,xlc,xco,xhs⟩,hx⟩ : ∃ x,fs[k]? = some x:=⟨fs[k],List.getElem?_eq_getElem hlt⟩
     obtain ⟨b,o,cap',cv,hw,hv2,hbb,hBb,hHh,-,d0,d1,d2,d3,d4,d5,d6⟩:=(HFM.out.1.below (belows BB.out HRr.out.2 BB.out.size) (Nat.le_refl _)).at hx
     obtain ⟨rfl,-,rfl⟩:=Value.slice.inj hv2
     obtain ⟨xa,xc,rfl⟩:=hBb.len
     obtain ⟨ya,yc,rfl⟩:=hHh.len
     dsimp only at d0 d1 d2 d3 d4 d5 d6
     have hki : (k : Int) < (fs.length : Int):=by omega
     have HT:=hid (take_flat (f:=Cf.fdB) hx)
     have HLn:=hid (show (L5 ++ (fs.take k).flatMap Cf.fdB).length + 2 * 4 ≤ 140737488355328 by rw [List.length_append,fds_len,List.length_take];have:=HE5.out;have:=HPm.out;omega)
     have HWa:=hid (HRr.out.alloc (.cells #[.int .i64 xac,.int .i64 xnm,.int .i64 xds,.int .i64 xst,.int .i64 xlc,.slice xa xco.length xc,.slice ya xhs.length yc] 42))
     obtain ⟨L,hL⟩ : ∃ L,L = L5 ++ (fs.take k).flatMap Cf.fdB:=⟨_,rfl⟩
     rw [← hL] at HLn HWa
     have HLe:=hid hL
     clear hx hv2 hL hBb hHh HW0
     go_wp2_with (go_at_call 46;refine (wpo (ru2_k w1 _ L [xac,xnm,xds,0] _ _ 4 4 _ _ HWa.out rfl HLn.out rfl (World.size_alloc _ _).symm)).mono ?_;rintro e W6 ⟨v6,L6,rfl,h6,HL6,g6⟩;have H6:=hid h6;clear h6 g6)
     go_roundw
     case rel=>exact ⟨k + 1,by omega,by go_num,hid (by rw [HT.out,← List.append_assoc,← HLe.out];have h9:=H6.out;rw [HL6.out] at h9;exact h9)⟩
     case measure=>simp [intOf];omega
    ·obtain rfl : k = fs.length:=by omega
     have H9:=HRr.out
     rw [List.take_length] at H9
     have H9:=hid H9
     have HLn:=hid (show (L5 ++ fs.flatMap Cf.fdB).length + 2 * 1 ≤ 140737488355328 by rw [List.length_append,fds_len];have:=HE5.out;have:=HPm.out;omega)
     have hki : ¬ ((fs.length : Int) < (fs.length : Int)):=by omega
     clear HRr HW0
     go_wp2_with (go_at_call 46;refine (wpo (ru2_k w1 _ _ [(ms.length : Int)] _ _ 1 1 _ _ H9.out rfl HLn.out rfl rfl)).mono ?_;rintro e W7 ⟨v7,L7,rfl,h7,HL7,g7⟩;have HE7:=hid (show L7.length ≤ 2100000 from by (rw [HL7.out,List.length_append,List.length_append,fds_len,w2_one,Cf.w2_len];have:=HE5.out;have:=HPm.out;have:=(HSz.out HR.out).1;omega));have HA7:=hid h7;clear h7 g7)
     clear q0 q1 q2 q3 q4 q5 q6 q7
     obtain ⟨cx,hcx⟩ : ∃ n,n = Cf.cix P:=⟨_,rfl⟩
     rw [← hcx] at HCo HCb
     clear hcx
     obtain ⟨wo,rfl⟩ : ∃ wo,wo = wr:=⟨_,rfl⟩
     go_loopw [5,10] (fun u i wr=>∃ k : Nat,k ≤ ms.length ∧ i = .int .i64 k ∧ Hid (Wr w1 wr u (L7 ++ (ms.take k).flatMap (Cf.meB cx)))) (fun _ i _=>ms.length - (intOf i).toNat)
     case atStart=>exact ⟨0,by omega,rfl,hid (by simpa using HA7.out)⟩
     case round =>
      obtain ⟨k,hk,rfl,HRr⟩:=hrel
      have HW0:=HRr
      have hm256:=(HSz.out HR.out).2.1
      have HB9:=HRr.out.2
      have hzb0:=BX.out.sz
      have hzw:=HB9.size
      have bX:=BX.out.below HB9 BX.out.sz
      have q0:=bX.cell 0
      have q1:=bX.cell 1
      have q2:=bX.cell 2
      have q3:=bX.cell 3
      have q4:=bX.cell 4
      have q5:=bX.cell 5
      have q6:=bX.cell 6
      have q7:=bX.cell 7
      simp at q0 q1 q2 q3 q4 q5 q6 q7
      clear bX HB9
      obtain ⟨au,ku,cu,rfl⟩:=own_form3 HRr.out.1
      by_cases hlt : k < ms.length
      ·obtain ⟨⟨xac,xnm,xds,xst,xlc,xco,xhs⟩,hx⟩ : ∃ x,ms[k]? = some x:=⟨ms[k],List.getElem?_eq_getElem hlt⟩
       obtain ⟨b,o,cap',cv,hw,hv2,hbb,hBb,hHh,-,d0,d1,d2,d3,d4,d5,d6⟩:=(HFM.out.2.below (belows BB.out HRr.out.2 BB.out.size) (Nat.le_refl _)).at hx
       obtain ⟨rfl,-,rfl⟩:=Value.slice.inj hv2
       have hgd:=(HSz.out HR.out).2.2.2 _ (List.mem_of_getElem? hx)
       dsimp only at hgd
       have HBd':=fun W (q : Below wr.heap.size wr W)=>rbody_any ⟨xac,xnm,xds,xst,xlc,xco,xhs⟩ cv hw W ((hBb.below q (Nat.le_refl _)).mono q.size) (hHh.below q (Nat.le_refl _)) hgd.1 (by have:=hgd.2.1;have:=hgd.2.2;dsimp only;omega)
       obtain ⟨xa,xc,rfl⟩:=hBb.len
       obtain ⟨ya,yc,rfl⟩:=hHh.len
       dsimp only at d0 d1 d2 d3 d4 d5 d6
       have HAt':=Cf.attr_len ⟨xac,xnm,xds,xst,xlc,xco,xhs⟩
       have HT:=hid (take_flat (f:=Cf.meB cx) hx)
       have HLn:=hid (show (L7 ++ (ms.take k).flatMap (Cf.meB cx)).length ≤ 1099511627776 by
        have h1:=mes_len (code:=cx) (ms:=ms.take k) (fun m hm=>(HSz.out HR.out).2.2.2 m (List.mem_of_mem_take hm))
        rw [List.length_take] at h1
        rw [List.length_append]
        have:=HE7.out
        omega)
       have HWa:=HRr
       obtain ⟨L,hL⟩ : ∃ L,L = L7 ++ (ms.take k).flatMap (Cf.meB cx):=⟨_,rfl⟩
       rw [← hL] at HLn HWa
       have HLe:=hid hL
       have HMp':=me_parts L cx ⟨xac,xnm,xds,xst,xlc,xco,xhs⟩
       obtain ⟨AL,hAL⟩ : ∃ A,A = Cf.attrB ⟨xac,xnm,xds,xst,xlc,xco,xhs⟩:=⟨_,rfl⟩
       rw [← hAL] at HMp' HAt' HBd'
       unfold mbV at HBd'
       dsimp only at HMp' HAt' HBd'
       have HMp:=hid HMp'
       have HAt:=hid (show AL.length ≤ 10000 ∧ 0 < AL.length by have:=hgd.2.1;have:=hgd.2.2;omega)
       have HBd:=hid HBd'
       have HW0:=HWa
       have HNM:=hid (show ∀ k,(Value.slice au ku cu).ownBlock = some k → k ≠ wr.heap.size from fun k hk=>by have:=Kit.own_lt HWa.out.1 k hk;omega)
       have hki : (k : Int) < (ms.length : Int):=by omega
       clear hx hv2 hL hBb hHh HMp' HAt' HBd' hAL hgd
       go_wp2_with (go_at_call 49;refine (HBd.out _ BLw).mono ?_;rintro e W8 ⟨vx,rfl,hx8,hb8⟩;obtain ⟨bM,hzM,B8⟩:=belows1 hb8;have HNX:=hid (show ∀ k,vx.ownBlock = some k → (Value.slice au ku cu).ownBlock ≠ some k from fun k hk e9=>by (have q1:=Kit.own_base hx8 k hk;have q2:=Kit.own_lt HW0.out.1 k e9;simp only [World.size_alloc] at q1;omega));obtain ⟨g,gc,rfl,hgl,-⟩:=own_some hx8 (by (have:=HAt.out;omega));have HX8:=hid hx8;have h8:=HW0.out.below B8;have HB9:=h8.2;(have bX:=BX.out.below HB9 BX.out.sz;clear q0 q1 q2 q3 q4 q5 q6 q7;obtain ⟨q0,q1,q2,q3,q4,q5,q6,q7⟩:=bX.cells8;clear bX HB9);have m0:=bM.cell 0;have m1:=bM.cell 1;have m2:=bM.cell 2;simp at m0 m1 m2;have hzm:=bM.sz;have BM:=hid bM;have HA8:=hid h8;clear hb8 hx8 h8 bM B8 hgl)
       go_region_held3 (fun w'=>w'.cell? ⟨wr.heap.size,0,none⟩ = some (.int .i64 xac) ∧ w'.cell? ⟨wr.heap.size,1,none⟩ = some (.int .i64 xnm) ∧ w'.cell? ⟨wr.heap.size,2,none⟩ = some (.int .i64 xds) ∧ w'.cell? ⟨w.heap.size,2,none⟩ = some (.slice pa P.length pc))
        (first|exact ⟨m0,m1,m2,q2⟩|go_keep)
        (first|(go_at_call 50;refine (HCo.out _ (belows BB.out (HA8.out.2.drew) BB.out.size)).mono ?_;rintro e W9 ⟨rfl,hb9⟩;have hb9:=below_undrew hb9;have h9:=HA8.out.below hb9;have HX9:=hid (show L3.OwnI W9 _ _ _ from Kit.owns_below HX8.out hb9 (Nat.le_refl _));have HB9:=h9.2;(have bX:=BX.out.below HB9 BX.out.sz;clear q0 q1 q2 q3 q4 q5 q6 q7;obtain ⟨q0,q1,q2,q3,q4,q5,q6,q7⟩:=bX.cells8;clear bX HB9);have bM:=BM.out.below hb9 BM.out.sz;clear m0 m1 m2;have m0:=bM.cell 0;have m1:=bM.cell 1;have m2:=bM.cell 2;simp at m0 m1 m2;have hzm9:=bM.sz;have BM9:=hid bM;have HA9:=hid h9;clear hb9 h9 bM)|(go_at_call 46;have _g:=HA9;refine (wpo (ru2_k w1 _ L [xac,xnm,xds,1,(cx : Int)] _ _ 5 5 _ W9 HA9.out rfl (by (have:=HLn.out;omega)) rfl rfl)).mono ?_;rintro e WA ⟨vA,LA,rfl,hA,HLA,gA⟩;have ha:=grows_owns gA HX9.out HNX.out;have HXA:=hid ha;have HEA:=hid (show LA.length = L.length + 10 from by (rw [HLA.out,List.length_append];rfl));have hbM:=gA.cell (b:=wr.heap.size) hzm9 HNM.out;have m0:=(hbM 0).trans m0;have m1:=(hbM 1).trans m1;have m2:=(hbM 2).trans m2;have HNA:=hid (hne_grow gA hzm9 HNM.out);have HZA:=hid (show wr.heap.size < WA.heap.size from Nat.lt_of_lt_of_le hzm9 gA.size);obtain ⟨aA,kA,cA,rfl⟩:=own_form3 hA.1;have HB9:=hA.2;(have bX:=BX.out.below HB9 BX.out.sz;clear q0 q1 q2 q3 q4 q5 q6 q7;obtain ⟨q0,q1,q2,q3,q4,q5,q6,q7⟩:=bX.cells8;clear bX HB9);have HAA:=hid hA;clear hA gA ha hbM)|(go_at_call 47;have _g:=HAA;refine (wpo (ru4_wr w1 _ _ _ _ HAA.out (by (have:=HLn.out;have:=HEA.out;omega)))).mono ?_;rintro e WB ⟨vB,LB,rfl,hB,HLB,gB⟩;have ha:=grows_owns gB HXA.out.1 HXA.out.2;have HXB:=hid ha;have HEB:=hid (show LB.length = L.length + 14 from by (have h9:=congrArg List.length HLB.out;rw [List.length_append,HEA.out,Cf.w4_len] at h9;omega));have hbM:=gB.cell (b:=wr.heap.size) HZA.out HNA.out;have m0:=(hbM 0).trans m0;have m1:=(hbM 1).trans m1;have m2:=(hbM 2).trans m2;have HNB:=hid (hne_grow gB HZA.out HNA.out);have HZB:=hid (show wr.heap.size < WB.heap.size from Nat.lt_of_lt_of_le HZA.out gB.size);obtain ⟨aB,cB,rfl⟩:=L3.own_form hB.1;have HB9:=hB.2;(have bX:=BX.out.below HB9 BX.out.sz;clear q0 q1 q2 q3 q4 q5 q6 q7;obtain ⟨q0,q1,q2,q3,q4,q5,q6,q7⟩:=bX.cells8;clear bX HB9);have HAB:=hid hB;clear hB gB ha hbM)|(have _g:=HAB;have hcl9 : ∀ j u,(AL.map (Value.int .u8))[j]? = some u → WB.cell? ((⟨g,0,none⟩ : Addr).add j) = some u:=(fun j u hj=>HXB.out.1.cells (g:=g) rfl j u hj);have hrow9 : WB.ownsRow w1.heap.size 5 1 (.slice aB LB.length cB) LB.length (LB.map (Value.int .u8)):=HAB.out.1;have hb9 : LB.length + AL.length ≤ maxLen:=(by (have:=HLn.out;have:=HAt.out;have:=HEB.out;unfold maxLen;omega));have hb8 : (LB.length + AL.length) * 1 ≤ 140737488355328:=(by (have:=HLn.out;have:=HAt.out;have:=HEB.out;omega));have hz9 : w1.heap.size ≤ WB.heap.size:=HAB.out.2.size;have hl9 : (AL.map (Value.int .u8)).length = AL.length * 1:=(by rw [List.length_map,Nat.mul_one]);refine Kit.step_append_own rfl (.tmp 103) (.tmp 104) 22 rfl w1.heap.size 5 i0 _ 1 1 Tryz.underlying22 hi hz0 hz1 hz2 rfl (by decide) (.slice aB LB.length cB) LB.length (LB.map (Value.int .u8)) (by first|with_reducible rfl|(simp [go_sem];done)|rfl) hrow9 ⟨g,0,none⟩ AL.length gc (AL.map (Value.int .u8)) (by first|with_reducible rfl|(simp [go_sem];done)|rfl) hl9 hcl9 (ones_i _) hb9 hb8 hz9 ?_;clear hcl9 hrow9 hb9 hb8 hz9 hl9;intro vC WC hoC hgC hkC;have gC : Kit.Grows WB WC (.slice aB LB.length cB) vC:=Kit.grows_append (Below.refl _ _) hgC hkC;have hbM:=gC.cell (b:=wr.heap.size) HZB.out HNB.out;have m0:=(hbM 0).trans m0;have m1:=(hbM 1).trans m1;have m2:=(hbM 2).trans m2;have hC:=HAB.out.grow (own_app rfl (by simp) hoC) gC;rw [HLB.out,HLA.out,HMp.out] at hC;have HAC:=hid hC;have HB9:=hC.2;(have bX:=BX.out.below HB9 BX.out.sz;clear q0 q1 q2 q3 q4 q5 q6 q7;obtain ⟨q0,q1,q2,q3,q4,q5,q6,q7⟩:=bX.cells8;clear bX HB9);clear hC hoC hgC hkC gC hbM))
       all_goals
        go_wp2_with fail
        go_roundw
        case rel=>exact ⟨k + 1,by omega,by go_num,hid (by rw [HT.out,← List.append_assoc,← HLe.out];exact HAC.out)⟩
        case measure=>simp [intOf];omega
      ·obtain rfl : k = ms.length:=by omega
       have H9:=HRr.out
       rw [List.take_length] at H9
       have H9:=hid H9
       have HLn:=hid (show (L7 ++ ms.flatMap (Cf.meB cx)).length + 2 * 1 ≤ 140737488355328 by
        have h1:=mes_len (code:=cx) (ms:=ms) (fun m hm=>(HSz.out HR.out).2.2.2 m hm)
        rw [List.length_append]
        have:=HE7.out
        omega)
       have hki : ¬ ((ms.length : Int) < (ms.length : Int)):=by omega
       clear HRr HW0
       go_wp2_with (go_at_call 46;refine (wpo (ru2_k w1 _ _ [(0 : Int)] _ _ 1 1 _ _ H9.out rfl HLn.out rfl rfl)).mono ?_;rintro e WF ⟨vF,LF,rfl,hF,HLF,gF⟩;have eB : LF = B:=(by (rw [HLF.out,HL7.out,HL5.out,HL2.out];have h9:=HCb.out;simp only [List.flatMap_cons,List.flatMap_nil,List.append_nil,List.nil_append,List.append_assoc] at h9 ⊢;exact h9));subst eB;obtain ⟨aF,cF,rfl⟩:=L3.own_form hF.1;have HAF:=hid hF;clear hF gF;by_cases hlen : 65536 < LF.length;all_goals (first|(have hd9 : decide (65536 < (LF.length : Int)) = true:=decide_eq_true (by omega))|(have hd9 : decide (65536 < (LF.length : Int)) = false:=decide_eq_false (by omega))))
       ·exact HOk.out HR.out _ _ (fun _=>rfl) (fun h=>absurd h (by omega)) (belows BB.out HAF.out.2 BB.out.size)
       ·exact HOk.out HR.out _ _ (fun h=>absurd h hlen) (fun _=>⟨_,rfl,own_base_le HAF.out.1 BB.out.size⟩) (belows BB.out HAF.out.2 BB.out.size)
end Go.Proofs.YtnojgiflgmnjlaaGreatDoor
