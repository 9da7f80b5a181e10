/- Own texts for the claim, part 25. -/
import Derived.Test.YtnojgiflgmnjlaaGreatDoorZM24
import Derived.Deep.DeepCutAuto
import Derived.Test.YtnojgiflgmnjlaaGreatDoorRows
import Derived.ChangeSlices
set_option maxRecDepth 100000
namespace Go.Proofs.YtnojgiflgmnjlaaGreatDoor
open Go Go.RowKit
def RtPost (mk : List L3.Cp.C → Cf.Mb → Cf.Cl) (c : Cf.Cl) (m : Cf.Mb) (a b : ByteArray) (w : World) (e : Ending) (w' : World) : Prop :=
 ∃ l1 i1 e1 l2 i2 e2,AdS c.pool 0 ⟨1,a,0,0,0⟩ l1 i1 e1 ∧ AdS l1 e1 ⟨1,b,0,0,0⟩ l2 i2 e2 ∧
  ((e2 ≠ 0 ∧ e = .returned (.tuple #[K0V,.int .i64 e2])) ∨
   (e2 = 0 ∧ ∃ er,Cf.ClIs (mk l2 { m with nm:=(i1 : Nat),ds:=(i2 : Nat) }) er ∧ ((er = 0 ∧ ∃ vs',e = .returned (.tuple #[.agg vs',.int .i64 0]) ∧ ClR w' vs' (mk l2 { m with nm:=(i1 : Nat),ds:=(i2 : Nat) })) ∨ (er ≠ 0 ∧ e = .returned (.tuple #[K0V,.int .i64 er]))))) ∧
  Below w.heap.size w w'
theorem step_memw {ops : Array Oper} {o : Oper} {a : Act} {w : World} {K : Act → World → Prop} {Q : Exit → Act → World → Prop} {E : Prop} (hgd : o.guard = none) (s x : Operand)
  (hop : o.op = Op.call { callee:=Callee.builtin Builtin.append,args:=#[s,x],argTypes:=#[24,24] })
  (B : Nat) (v : Value) (n : Nat) (xs : List Value) (hs : a.eval s = v) (hown : w.ownsRow B 42 7 v n xs) (hB : B ≤ w.heap.size)
  (xv : Value) (m : Nat) (news : List Value) (hx : a.eval x = xv) (hr : Kit.IsS 7 w xv m news) (h1 : ∀ u ∈ news,u.oneCell' = true) (hnm : (n + m) * 88 ≤ 140737488355328)
  (hK : ∀ b N c w',N = n + m → w'.ownsRow B 42 7 (.slice b N c) N (xs ++ news) → Below B w w' → K (a.put o.dst (.slice b N c)) w') :
  if Region.wanted o (yielded ops a.tmps) = true then Oper.wp Tryz.prog o a w K Q else E:=by
 have hw : Region.wanted o (yielded ops a.tmps) = true:=by simp [Region.wanted,hgd]
 rw [if_pos hw]
 obtain ⟨i0,hi,hz0,hz1,hz2⟩:=info_parts infoM
 have fin : ∀ v' w',w'.ownsRow B 42 7 v' (n + m) (xs ++ news) → Below B w w' → K (a.put o.dst v') w':=fun v' w' h2 h3=>by
  obtain ⟨N,hN⟩ : ∃ N,N = n + m:=⟨_,rfl⟩
  rw [← hN] at h2
  have hf : ∃ b c,v' = .slice b N c:=by
   rcases h2.2 with ⟨h,h0⟩|⟨g,cap,cur,h,-⟩
   ·exact ⟨none,0,by rw [h0];exact h⟩
   ·exact ⟨_,_,h⟩
  obtain ⟨b,c,rfl⟩:=hf
  exact hK b N c w' hN h2 h3
 have some' : ∀ ad c,xv = .slice (some ad) m c → (∀ j u,news[j]? = some u → w.cell? (ad.add j) = some u) → Oper.wp Tryz.prog o a w K Q:=fun ad c he hc=>by
  subst he
  obtain ⟨v',w',hr',h2,h3,-,h5⟩:=run_append_own_at (P:=Tryz.prog) w B 24 o.type 42 i0 _ 7 88 Tryz.underlying24 hi hz0 hz1 hz2 rfl (by decide) v n xs hown ad m c news hr.1 hc h1 (by unfold maxLen;omega) hnm hB
  unfold Oper.wp execOp
  simp only [hop,resolve,invoke,builtin,Sem.run_bind,Sem.run_pure,Result.andThen_ok,List.map_toArray,List.map_cons,List.map_nil,hs,hx,hr']
  exact fin _ _ h2 (Kit.below_grown (Below.refl _ _) h3 hB (Kit.own_base hown))
 rcases hr.2.2 with ⟨h0,ad,c,he⟩|⟨b,ofs,c,he,-,-,hc⟩
 ·subst h0
  have hn : news = []:=List.eq_nil_of_length_eq_zero (by simpa using hr.1)
  cases ad with
  | some ad=>exact some' ad c he (fun j u hj=>by rw [hn] at hj;simp at hj)
  | none =>
   subst hn he
   have hcap : ∃ ad' n' c',v = .slice ad' n' c' ∧ n' ≤ c':=by
    rcases hown.2 with ⟨h,-⟩|⟨g,cap,cur,h,-,-,h4,-⟩
    ·exact ⟨none,0,0,h,Nat.le_refl _⟩
    ·exact ⟨_,_,_,h,h4⟩
   obtain ⟨ad',n',c',he',hle⟩:=hcap
   have hr':=run_append_nothing (P:=Tryz.prog) w 24 24 o.type 42 i0 Tryz.underlying24 hi ad' n' c' hle (.slice none 0 c) (by rw [hz1];exact src_none7 c w)
   rw [← he'] at hr'
   unfold Oper.wp execOp
   simp only [hop,resolve,invoke,builtin,Sem.run_bind,Sem.run_pure,Result.andThen_ok,List.map_toArray,List.map_cons,List.map_nil,hs,hx,hr']
   exact fin _ _ (by simpa using hown) (Below.refl _ _)
 ·exact some' _ c he (fun j u hj=>by rw [Go.WideShapes.add_plain];exact hc j u hj)
theorem new_mem (w : World) (T : TypeId) (v0 v1 v2 v3 v4 v5 v6 : Value) : Kit.IsS 7 (w.alloc (.cells #[v0,v1,v2,v3,v4,v5,v6] T)) (.slice (some ⟨w.heap.size,0,none⟩) 1 1) 1 [v0,v1,v2,v3,v4,v5,v6] :=
 ⟨rfl,by decide,.inr ⟨w.heap.size,0,1,rfl,Nat.le_refl _,by simp,fun i u hu=>by
  match i,hu with
  | 0,hu=>simp at hu;subst hu;simp [go_sem]
  | 1,hu=>simp at hu;subst hu;simp [go_sem]
  | 2,hu=>simp at hu;subst hu;simp [go_sem]
  | 3,hu=>simp at hu;subst hu;simp [go_sem]
  | 4,hu=>simp at hu;subst hu;simp [go_sem]
  | 5,hu=>simp at hu;subst hu;simp [go_sem]
  | 6,hu=>simp at hu;subst hu;simp [go_sem]⟩⟩
theorem mem_ones (i0 i1 i2 i3 i4 : Int) (x y : Option Addr) (n m c d : Nat) : ∀ u ∈ [Value.int .i64 i0,.int .i64 i1,.int .i64 i2,.int .i64 i3,.int .i64 i4,.slice x n c,.slice y m d],u.oneCell' = true:=by
 intro u hu
 simp only [List.mem_cons,List.not_mem_nil,or_false] at hu
 rcases hu with rfl|rfl|rfl|rfl|rfl|rfl|rfl <;> rfl
set_option maxHeartbeats 4000000 in
theorem rwithM_at (mi ma ac th su : Int) (P : List L3.Cp.C) (fs ms : List Cf.Mb) (mac mnm mds mst mlc : Int) (co : List UInt8) (hs9 : List Cf.Hn) (pa fa ma2 : Option Addr) (pc fc mc : Nat) (xa ya : Option Addr) (xc yc : Nat) (a b : ByteArray) (w : World) (hp : Kit.IsS 5 w (.slice pa P.length pc) P.length (P.flatMap L3.cL)) (hf : MsR w (.slice fa fs.length fc) fs) (hm : MsR w (.slice ma2 ms.length mc) ms) (hB : L3.Bs w.heap.size w (.slice xa co.length xc) co) (hH : Kit.IsS 4 w (.slice ya hs9.length yc) hs9.length (hs9.flatMap hL)) (hl : PoolR P) (ha : a.size ≤ 140737488355328) (hb : b.size ≤ 140737488355328) (hms : (ms.length + 1) * 88 ≤ 140737488355328) (hcs : co.length ≤ 140737488355328) :
  Calls Tryz.prog 29 #[.agg #[.int .i64 mi,.int .i64 ma,.slice pa P.length pc,.int .i64 ac,.int .i64 th,.int .i64 su,.slice fa fs.length fc,.slice ma2 ms.length mc],.string a,.string b,.agg #[.int .i64 mac,.int .i64 mnm,.int .i64 mds,.int .i64 mst,.int .i64 mlc,.slice xa co.length xc,.slice ya hs9.length yc]] w (RtPost (mkM ⟨mi,ma,P,ac,th,su,fs,ms⟩) ⟨mi,ma,P,ac,th,su,fs,ms⟩ ⟨mac,mnm,mds,mst,mlc,co,hs9⟩ a b w):=by
 have HW:=hid (fun W (k : Below w.heap.size w W)=>rwith_at mi ma ac th su P fs ms mac mnm mds mst mlc co hs9 pa fa ma2 xa ya pc fc mc xc yc a b W (hp.below k (Nat.le_refl _)) hl ha hb)
 have HMr:=hid (fun (i1 i2 : Nat) W (k : Below w.heap.size w W)=>(show MbR W [.int .i64 mac,.int .i64 (i1 : Nat),.int .i64 (i2 : Nat),.int .i64 mst,.int .i64 mlc,.slice xa co.length xc,.slice ya hs9.length yc] ⟨mac,(i1 : Nat),(i2 : Nat),mst,mlc,co,hs9⟩ from ⟨_,_,rfl,(hB.below k (Nat.le_refl _)).mono k.size,hH.below k (Nat.le_refl _),hcs⟩))
 have HF:=hid hf
 have HM:=hid hm
 have HL:=hid hms
 obtain ⟨rsl,hrs⟩:=HM.out
 have HRS:=hid hrs
 clear hp hf hm hl ha hb hms hcs hrs hB hH
 obtain ⟨Q,hQ⟩ : ∃ Q,Q = RtPost (mkM ⟨mi,ma,P,ac,th,su,fs,ms⟩) ⟨mi,ma,P,ac,th,su,fs,ms⟩ ⟨mac,mnm,mds,mst,mlc,co,hs9⟩ a b w:=⟨_,rfl⟩
 have HQ:=hid hQ
 rw [← hQ]
 clear hQ
 show Calls _ _ _ _ fun e w'=>Q e w'
 go_enter Tryz.func29,Tryz.ntmps29
 go_wp2_with fail
 obtain ⟨W1,hW1⟩ : ∃ W1,W1 = (((w.alloc (.cells #[.int .i64 mi,.int .i64 ma,.slice pa P.length pc,.int .i64 ac,.int .i64 th,.int .i64 su,.slice fa fs.length fc,.slice ma2 ms.length mc] 26)).alloc (.cells #[.int .i64 mac,.int .i64 mnm,.int .i64 mds,.int .i64 mst,.int .i64 mlc,.slice xa co.length xc,.slice ya hs9.length yc] 42)).alloc (.cells #[.int .i64 0,.int .i64 0,.slice none 0 0,.int .i64 0,.int .i64 0,.int .i64 0,.slice none 0 0,.slice none 0 0] 26)):=⟨_,rfl⟩
 obtain ⟨bC,bM,bR,hzW,B1⟩:=three hW1
 rw [← hW1]
 have BM1:=hid bM
 have HB1:=hid B1
 have BC1:=hid bC
 have BR1:=hid bR
 clear hW1 bC bM bR B1
 refine (HW.out W1 HB1.out).mono ?_
 rintro e w2 ⟨l1,i1,e1,l2,i2,e2,hs1,hs2,hcase,hb2⟩
 have HS1:=hid hs1
 have HS2:=hid hs2
 have hz2:=hb2.size
 have bC:=BC1.out.below hb2 BC1.out.sz
 have bR:=BR1.out.below hb2 BR1.out.sz
 have B2:=belows HB1.out hb2 HB1.out.size
 have HB2:=hid B2
 have BC2:=hid bC
 have BR2:=hid bR
 have bM:=BM1.out.below hb2 BM1.out.sz
 have BM2:=hid bM
 obtain ⟨k0,k1,k2,k3,k4,k5,k6,k7⟩:=bC.cells8;have fk0:=bC.frozen 0;have fk1:=bC.frozen 1;have fk2:=bC.frozen 2;have fk3:=bC.frozen 3;have fk4:=bC.frozen 4;have fk5:=bC.frozen 5;have fk6:=bC.frozen 6;have fk7:=bC.frozen 7;obtain ⟨r0,r1,r2,r3,r4,r5,r6,r7⟩:=bR.cells8;have fr0:=bR.frozen 0;have fr1:=bR.frozen 1;have fr2:=bR.frozen 2;have fr3:=bR.frozen 3;have fr4:=bR.frozen 4;have fr5:=bR.frozen 5;have fr6:=bR.frozen 6;have fr7:=bR.frozen 7;obtain ⟨m0,m1,m2,m3,m4,m5,m6⟩:=bM.cells7;have fm0:=bM.frozen 0;have fm1:=bM.frozen 1;have fm2:=bM.frozen 2;have fm3:=bM.frozen 3;have fm4:=bM.frozen 4;have fm5:=bM.frozen 5;have fm6:=bM.frozen 6
 clear hs1 hs2 bC bR bM B2
 rcases hcase with ⟨hz,rfl⟩|⟨rfl,hP2,pa2,pc2,rfl,hO⟩
 ·have hd : (e2 != 0) = true:=by simpa using hz
  have HZ:=hid hz
  clear hz hb2
  unfold K0V M0V
  go_wp2
  clear k0 k1 k2 k3 k4 k5 k6 k7 fk0 fk1 fk2 fk3 fk4 fk5 fk6 fk7 r0 r1 r2 r3 r4 r5 r6 r7 fr0 fr1 fr2 fr3 fr4 fr5 fr6 fr7 m0 m1 m2 m3 m4 m5 m6 fm0 fm1 fm2 fm3 fm4 fm5 fm6
  have g1:=grown8 w2 w.heap.size (.int .i64 0) (.int .i64 0) (.slice none 0 0) (.int .i64 0) (.int .i64 0) (.int .i64 0) (.slice none 0 0) (.slice none 0 0)
  have g2:=grown7 ((((((((w2.setCell ⟨w.heap.size,0,none⟩ (.int .i64 0)).setCell ⟨w.heap.size,1,none⟩ (.int .i64 0)).setCell ⟨w.heap.size,2,none⟩ (.slice none 0 0)).setCell ⟨w.heap.size,3,none⟩ (.int .i64 0)).setCell ⟨w.heap.size,4,none⟩ (.int .i64 0)).setCell ⟨w.heap.size,5,none⟩ (.int .i64 0)).setCell ⟨w.heap.size,6,none⟩ (.slice none 0 0)).setCell ⟨w.heap.size,7,none⟩ (.slice none 0 0)) (w.heap.size + 1) (.int .i64 0) (.int .i64 0) (.int .i64 0) (.int .i64 0) (.int .i64 0) (.slice none 0 0) (.slice none 0 0)
  have bC:=(put8 BC2.out rfl (.int .i64 0) (.int .i64 0) (.slice none 0 0) (.int .i64 0) (.int .i64 0) (.int .i64 0) (.slice none 0 0) (.slice none 0 0)).grown g2 (fun e=>by (have:=Option.some.inj e;omega))
  have bM:=put7 (BM2.out.grown g1 (fun e=>by (have:=Option.some.inj e;omega))) rfl (.int .i64 0) (.int .i64 0) (.int .i64 0) (.int .i64 0) (.int .i64 0) (.slice none 0 0) (.slice none 0 0)
  have bR:=(BR2.out.grown g1 (fun e=>by (have:=Option.some.inj e;omega))).grown g2 (fun e=>by (have:=Option.some.inj e;omega))
  have B2:=nwB (nwB HB2.out g1 ⟨Nat.le_refl _,HB2.out.size⟩) g2 ⟨by omega,Nat.le_trans HB2.out.size g1.size⟩
  obtain ⟨X,hX⟩ : ∃ X,X = (((((((((((((((w2.setCell ⟨w.heap.size,0,none⟩ (.int .i64 0)).setCell ⟨w.heap.size,1,none⟩ (.int .i64 0)).setCell ⟨w.heap.size,2,none⟩ (.slice none 0 0)).setCell ⟨w.heap.size,3,none⟩ (.int .i64 0)).setCell ⟨w.heap.size,4,none⟩ (.int .i64 0)).setCell ⟨w.heap.size,5,none⟩ (.int .i64 0)).setCell ⟨w.heap.size,6,none⟩ (.slice none 0 0)).setCell ⟨w.heap.size,7,none⟩ (.slice none 0 0)).setCell ⟨(w.heap.size + 1),0,none⟩ (.int .i64 0)).setCell ⟨(w.heap.size + 1),1,none⟩ (.int .i64 0)).setCell ⟨(w.heap.size + 1),2,none⟩ (.int .i64 0)).setCell ⟨(w.heap.size + 1),3,none⟩ (.int .i64 0)).setCell ⟨(w.heap.size + 1),4,none⟩ (.int .i64 0)).setCell ⟨(w.heap.size + 1),5,none⟩ (.slice none 0 0)).setCell ⟨(w.heap.size + 1),6,none⟩ (.slice none 0 0)):=⟨_,rfl⟩
  rw [← hX] at bR B2 ⊢
  clear hX bC bM g1 g2
  have bF:=put8 bR rfl (.int .i64 0) (.int .i64 0) (.slice none 0 0) (.int .i64 0) (.int .i64 0) (.int .i64 0) (.slice none 0 0) (.slice none 0 0)
  have hgF:=grown8 X (w.heap.size + 1 + 1) (.int .i64 0) (.int .i64 0) (.slice none 0 0) (.int .i64 0) (.int .i64 0) (.int .i64 0) (.slice none 0 0) (.slice none 0 0)
  have HBF:=nwB B2 hgF ⟨by omega,B2.size⟩
  obtain ⟨F,hF⟩ : ∃ F,F = ((((((((X.setCell ⟨(w.heap.size + 1 + 1),0,none⟩ (.int .i64 0)).setCell ⟨(w.heap.size + 1 + 1),1,none⟩ (.int .i64 0)).setCell ⟨(w.heap.size + 1 + 1),2,none⟩ (.slice none 0 0)).setCell ⟨(w.heap.size + 1 + 1),3,none⟩ (.int .i64 0)).setCell ⟨(w.heap.size + 1 + 1),4,none⟩ (.int .i64 0)).setCell ⟨(w.heap.size + 1 + 1),5,none⟩ (.int .i64 0)).setCell ⟨(w.heap.size + 1 + 1),6,none⟩ (.slice none 0 0)).setCell ⟨(w.heap.size + 1 + 1),7,none⟩ (.slice none 0 0)):=⟨_,rfl⟩
  rw [← hF] at bF HBF ⊢
  clear hgF hF bR
  obtain ⟨r0,r1,r2,r3,r4,r5,r6,r7⟩:=bF.cells8
  exact bodyPost_ret (v:=.tuple #[.agg #[.int .i64 0,.int .i64 0,.slice none 0 0,.int .i64 0,.int .i64 0,.int .i64 0,.slice none 0 0,.slice none 0 0],.int .i64 e2]) (by simp [results,Tryz.results29,go_sem,r0,r1,r2,r3,r4,r5,r6,r7]) rfl (by rw [HQ.out];unfold RtPost K0V;exact ⟨l1,i1,e1,l2,i2,e2,HS1.out,HS2.out,.inl ⟨HZ.out,rfl⟩,HBF⟩)
 ·have HP2:=hid hP2
  have HO:=hid hO
  clear hP2 hO hb2
  unfold mbV
  dsimp only
  go_upto_region 4 with fail
  clear k0 k1 k2 k3 k4 k5 k6 k7 fk0 fk1 fk2 fk3 fk4 fk5 fk6 fk7 r0 r1 r2 r3 r4 r5 r6 r7 fr0 fr1 fr2 fr3 fr4 fr5 fr6 fr7 m0 m1 m2 m3 m4 m5 m6 fm0 fm1 fm2 fm3 fm4 fm5 fm6
  have g1:=grown8 w2 w.heap.size (.int .i64 mi) (.int .i64 ma) (.slice pa2 l2.length pc2) (.int .i64 ac) (.int .i64 th) (.int .i64 su) (.slice fa fs.length fc) (.slice ma2 ms.length mc)
  have g2:=grown7 ((((((((w2.setCell ⟨w.heap.size,0,none⟩ (.int .i64 mi)).setCell ⟨w.heap.size,1,none⟩ (.int .i64 ma)).setCell ⟨w.heap.size,2,none⟩ (.slice pa2 l2.length pc2)).setCell ⟨w.heap.size,3,none⟩ (.int .i64 ac)).setCell ⟨w.heap.size,4,none⟩ (.int .i64 th)).setCell ⟨w.heap.size,5,none⟩ (.int .i64 su)).setCell ⟨w.heap.size,6,none⟩ (.slice fa fs.length fc)).setCell ⟨w.heap.size,7,none⟩ (.slice ma2 ms.length mc)) (w.heap.size + 1) (.int .i64 mac) (.int .i64 (i1 : Nat)) (.int .i64 (i2 : Nat)) (.int .i64 mst) (.int .i64 mlc) (.slice xa co.length xc) (.slice ya hs9.length yc)
  have bC:=(put8 BC2.out rfl (.int .i64 mi) (.int .i64 ma) (.slice pa2 l2.length pc2) (.int .i64 ac) (.int .i64 th) (.int .i64 su) (.slice fa fs.length fc) (.slice ma2 ms.length mc)).grown g2 (fun e=>by (have:=Option.some.inj e;omega))
  have bM:=put7 (BM2.out.grown g1 (fun e=>by (have:=Option.some.inj e;omega))) rfl (.int .i64 mac) (.int .i64 (i1 : Nat)) (.int .i64 (i2 : Nat)) (.int .i64 mst) (.int .i64 mlc) (.slice xa co.length xc) (.slice ya hs9.length yc)
  have bR:=(BR2.out.grown g1 (fun e=>by (have:=Option.some.inj e;omega))).grown g2 (fun e=>by (have:=Option.some.inj e;omega))
  have B2:=nwB (nwB HB2.out g1 ⟨Nat.le_refl _,HB2.out.size⟩) g2 ⟨by omega,Nat.le_trans HB2.out.size g1.size⟩
  obtain ⟨X,hX⟩ : ∃ X,X = (((((((((((((((w2.setCell ⟨w.heap.size,0,none⟩ (.int .i64 mi)).setCell ⟨w.heap.size,1,none⟩ (.int .i64 ma)).setCell ⟨w.heap.size,2,none⟩ (.slice pa2 l2.length pc2)).setCell ⟨w.heap.size,3,none⟩ (.int .i64 ac)).setCell ⟨w.heap.size,4,none⟩ (.int .i64 th)).setCell ⟨w.heap.size,5,none⟩ (.int .i64 su)).setCell ⟨w.heap.size,6,none⟩ (.slice fa fs.length fc)).setCell ⟨w.heap.size,7,none⟩ (.slice ma2 ms.length mc)).setCell ⟨(w.heap.size + 1),0,none⟩ (.int .i64 mac)).setCell ⟨(w.heap.size + 1),1,none⟩ (.int .i64 (i1 : Nat))).setCell ⟨(w.heap.size + 1),2,none⟩ (.int .i64 (i2 : Nat))).setCell ⟨(w.heap.size + 1),3,none⟩ (.int .i64 mst)).setCell ⟨(w.heap.size + 1),4,none⟩ (.int .i64 mlc)).setCell ⟨(w.heap.size + 1),5,none⟩ (.slice xa co.length xc)).setCell ⟨(w.heap.size + 1),6,none⟩ (.slice ya hs9.length yc)):=⟨_,rfl⟩
  have hO:=Kit.owns_grown (Kit.owns_grown HO.out g1 (by omega)) g2 (by omega)
  rw [← hX] at bC bM bR B2 hO ⊢
  clear hX g1 g2 HO
  have HC:=hid bC
  have HMm:=hid bM
  have HR:=hid bR
  have HB:=hid B2
  have HO:=hid hO
  obtain ⟨k0,k1,k2,k3,k4,k5,k6,k7⟩:=bC.cells8;obtain ⟨m0,m1,m2,m3,m4,m5,m6⟩:=bM.cells7
  have HRX:=hid HR.out.sz
  clear bC bM bR B2 hO BC2 BR2 HB2 BM2 BC1 BR1 HB1 BM1 HW
  go_cut [9] (fun b wx=>b = .int .i64 0 ∧ ∃ (q : Option Addr) (N qc : Nat),N = ms.length + 1 ∧ L3.BX wx w.heap.size #[.int .i64 mi,.int .i64 ma,.slice pa2 l2.length pc2,.int .i64 ac,.int .i64 th,.int .i64 su,.slice fa fs.length fc,.slice q N qc] 26 ∧ L3.BX wx (w.heap.size + 1 + 1) #[.int .i64 0,.int .i64 0,.slice none 0 0,.int .i64 0,.int .i64 0,.int .i64 0,.slice none 0 0,.slice none 0 0] 26 ∧ Below w.heap.size w wx ∧ L3.OwnC wx W1.heap.size (.slice pa2 l2.length pc2) l2 ∧ wx.ownsRow X.heap.size 42 7 (.slice q N qc) N (rsl.flatten ++ [.int .i64 mac,.int .i64 (i1 : Nat),.int .i64 (i2 : Nat),.int .i64 mst,.int .i64 mlc,.slice xa co.length xc,.slice ya hs9.length yc]))
  case first =>
   have hlC:=HC.out.sz
   have hlM:=HMm.out.sz
   go_region_law (first
    | ((fail_if_success (have _g:=HO6));refine step_memw rfl (.const (.slice none 0 0)) (.tmp 26) rfl X.heap.size (.slice none 0 0) 0 [] rfl (⟨rfl,.inl ⟨rfl,rfl⟩⟩) (Nat.le_refl _) (.slice ma2 ms.length mc) ms.length rsl.flatten rfl (HRS.out.2.below (belows HB.out (show Below X.heap.size X X.drew from (Below.refl _ _).drew) HB.out.size) (Nat.le_refl _)) HRS.out.1.ones (by have:=HL.out;omega) ?_;intro b6 N6 c6 w6 hN6 ho6 hb6';have hb6 : Below X.heap.size X w6:=belows ((Below.refl _ _).drew) hb6' (Nat.le_refl _);have HO6:=hid (And.intro hN6 ho6);have HB6:=hid hb6;have bM:=HMm.out.below hb6 HMm.out.sz;obtain ⟨m0,m1,m2,m3,m4,m5,m6⟩:=bM.cells7;clear bM hN6 ho6 hb6 hb6')
    | ((fail_if_success (have _g:=HO6));refine step_memw rfl (.const (.slice none 0 0)) (.tmp 26) rfl (X.heap.size + 1) (.slice none 0 0) 0 [] rfl (⟨rfl,.inl ⟨rfl,rfl⟩⟩) (by simp) (.slice ma2 ms.length mc) ms.length rsl.flatten rfl (HRS.out.2.below (belows HB.out (show Below X.heap.size X (X.drew.alloc (.cells #[.int .i64 mac,.int .i64 (i1 : Nat),.int .i64 (i2 : Nat),.int .i64 mst,.int .i64 mlc,.slice xa co.length xc,.slice ya hs9.length yc] 42)) from ((Below.refl _ _).drew).alloc (by simp) _) HB.out.size) (Nat.le_refl _)) HRS.out.1.ones (by have:=HL.out;omega) ?_;intro b6 N6 c6 w6 hN6 ho6 hb6';have hb6 : Below X.heap.size X w6:=(show Below X.heap.size X (X.drew.alloc (.cells #[.int .i64 mac,.int .i64 (i1 : Nat),.int .i64 (i2 : Nat),.int .i64 mst,.int .i64 mlc,.slice xa co.length xc,.slice ya hs9.length yc] 42)) from ((Below.refl _ _).drew).alloc (by simp) _).trans (hb6'.mono (by omega));have HNM:=hid (show Kit.IsS 7 w6 (.slice (some ⟨X.heap.size,0,none⟩) 1 1) 1 [.int .i64 mac,.int .i64 (i1 : Nat),.int .i64 (i2 : Nat),.int .i64 mst,.int .i64 mlc,.slice xa co.length xc,.slice ya hs9.length yc] from (new_mem X.drew 42 (.int .i64 mac) (.int .i64 (i1 : Nat)) (.int .i64 (i2 : Nat)) (.int .i64 mst) (.int .i64 mlc) (.slice xa co.length xc) (.slice ya hs9.length yc)).below hb6' (by simp));have HS7:=hid (show X.heap.size + 1 ≤ w6.heap.size from by (have:=hb6'.size;simpa using this));have HO6:=hid (And.intro hN6 ho6);have HB6:=hid hb6;have bM:=HMm.out.below hb6 HMm.out.sz;obtain ⟨m0,m1,m2,m3,m4,m5,m6⟩:=bM.cells7;clear bM hN6 ho6 hb6 hb6')
    | (have _g:=HNM;refine step_memw rfl (.tmp 27) (.tmp 29) rfl (X.heap.size + 1) (.slice b6 N6 c6) N6 _ rfl HO6.out.2 HS7.out (.slice (some ⟨X.heap.size,0,none⟩) 1 1) 1 [.int .i64 mac,.int .i64 (i1 : Nat),.int .i64 (i2 : Nat),.int .i64 mst,.int .i64 mlc,.slice xa co.length xc,.slice ya hs9.length yc] rfl HNM.out (mem_ones _ _ _ _ _ _ _ _ _ _ _) (by (have:=HO6.out.1;have:=HL.out;omega)) ?_;intro b7 N7 c7 w7 hN7 ho7' hb7';have ho7:=L3.own_mono (base':=X.heap.size) ho7' (by omega);have hb7 : Below X.heap.size X w7:=HB6.out.trans (hb7'.mono (by omega));have HO7:=hid (And.intro hN7 ho7);have HB7:=hid hb7;have bC:=HC.out.below hb7 HC.out.sz;have kk:=bC.cell 7;have fkk:=bC.frozen 7;simp at kk;clear bC hN7 ho7 hb7 hb7')
    | (have _g:=HO6;(fail_if_success (have _g:=HNM));refine step_memw rfl (.tmp 27) (.tmp 29) rfl X.heap.size (.slice b6 N6 c6) N6 _ rfl (World.ownsRow.alloc HO6.out.2 _) (by (have:=HB6.out.size;simp only [World.size_alloc];omega)) (.slice (some ⟨w6.heap.size,0,none⟩) 1 1) 1 [.int .i64 mac,.int .i64 (i1 : Nat),.int .i64 (i2 : Nat),.int .i64 mst,.int .i64 mlc,.slice xa co.length xc,.slice ya hs9.length yc] rfl (new_mem w6 42 (.int .i64 mac) (.int .i64 (i1 : Nat)) (.int .i64 (i2 : Nat)) (.int .i64 mst) (.int .i64 mlc) (.slice xa co.length xc) (.slice ya hs9.length yc)) (mem_ones _ _ _ _ _ _ _ _ _ _ _) (by (have:=HO6.out.1;have:=HL.out;omega)) ?_;intro b7 N7 c7 w7 hN7 ho7 hb7';have hb7 : Below X.heap.size X w7:=(HB6.out.alloc HB6.out.size _).trans hb7';have HO7:=hid (And.intro hN7 ho7);have HB7:=hid hb7;have bC:=HC.out.below hb7 HC.out.sz;have kk:=bC.cell 7;have fkk:=bC.frozen 7;simp at kk;clear bC hN7 ho7 hb7 hb7'))
   all_goals
    go_wp2_with fail
    go_meet
    have g7:=L3.set_grown w7 w.heap.size 7 (.slice b7 N7 c7)
    have bC:=(HC.out.below HB7.out HC.out.sz).set 7 (.slice b7 N7 c7)
    simp only [List.setIfInBounds_toArray,List.set_cons_zero,List.set_cons_succ] at bC
    have hlt:=HC.out.sz
    have hBW:=nwB (HB.out.trans (HB7.out.mono HB.out.size)) g7 ⟨Nat.le_refl _,Nat.le_trans HB.out.size HB7.out.size⟩
    have h9:=Kit.owns_grown HO7.out.2 g7 hlt
    rw [List.nil_append] at h9
    exact ⟨rfl,b7,N7,c7,(by have:=HO6.out.1;have:=HO7.out.1;omega),bC,(HR.out.below HB7.out HR.out.sz).grown g7 (fun e=>by (have:=Option.some.inj e;omega)),hBW,Kit.owns_grown (Kit.owns_below HO.out HB7.out (Nat.le_refl _)) g7 (by omega),h9⟩
  case rest =>
   obtain ⟨rfl,q,N,qc,hN,bC,bR,hBW,hO9,hMs⟩:=hcut
   have HCl:=hid (fun (Y : World) (hY : Below w.heap.size w Y) (o1 : L3.OwnC Y W1.heap.size (.slice pa2 l2.length pc2) l2) (o2 : Y.ownsRow X.heap.size 42 7 (.slice q N qc) N (rsl.flatten ++ [.int .i64 mac,.int .i64 (i1 : Nat),.int .i64 (i2 : Nat),.int .i64 mst,.int .i64 mlc,.slice xa co.length xc,.slice ya hs9.length yc]))=>(show ClR Y #[.int .i64 mi,.int .i64 ma,.slice pa2 l2.length pc2,.int .i64 ac,.int .i64 th,.int .i64 su,.slice fa fs.length fc,.slice q N qc] (mkM ⟨mi,ma,P,ac,th,su,fs,ms⟩ l2 ⟨mac,(i1 : Nat),(i2 : Nat),mst,mlc,co,hs9⟩) from by
    have hM9 : MsR Y (.slice q N qc) (ms ++ [⟨mac,(i1 : Nat),(i2 : Nat),mst,mlc,co,hs9⟩]):=by
     refine ⟨rsl ++ [[.int .i64 mac,.int .i64 (i1 : Nat),.int .i64 (i2 : Nat),.int .i64 mst,.int .i64 mlc,.slice xa co.length xc,.slice ya hs9.length yc]],MsC.app (HRS.out.1.below hY (Nat.le_refl _)) ⟨HMr.out i1 i2 _ hY,trivial⟩,?_⟩
     have h9:=Kit.isS_of_owns o2 (by have:=HL.out;omega)
     rw [List.length_append,List.flatten_append,List.length_cons,List.length_nil,show ms.length + (0 + 1) = N by omega]
     simpa using h9
    exact ⟨_,_,_,rfl,Kit.isS_of_owns o1 (by have:=HP2.out.len;show l2.length ≤ _;omega),HF.out.below hY (Nat.le_refl _),hM9⟩))
   have HO9:=hid hO9
   have HMs:=hid hMs
   have hck:=rcheck04_any _ _ wc (HCl.out wc hBW hO9 hMs) (show ∀ x ∈ l2,_ from HP2.out.ok)
   have HCx:=hid bC
   have HRx:=hid bR
   have HBx:=hid hBW
   obtain ⟨k0,k1,k2,k3,k4,k5,k6,k7⟩:=bC.cells8
   clear bC bR hBW hO9 hMs HC HMm HR HB HO HF HM hN m0 m1 m2 m3 m4 m5 m6
   go_wp2_with fail
   refine hck.mono ?_
   rintro e w9 ⟨er,hR,rfl,hb9⟩
   have HRr:=hid hR
   have bR:=HRx.out.below hb9 HRx.out.sz
   have bC:=HCx.out.below hb9 HCx.out.sz
   have B9:=belows HBx.out hb9 HBx.out.size
   have HO10:=hid (Kit.owns_below HO9.out hb9 (Nat.le_refl _))
   have HM10:=hid (Kit.owns_below HMs.out hb9 (Nat.le_refl _))
   clear k0 k1 k2 k3 k4 k5 k6 k7
   obtain ⟨k0,k1,k2,k3,k4,k5,k6,k7⟩:=bC.cells8;obtain ⟨r0,r1,r2,r3,r4,r5,r6,r7⟩:=bR.cells8;have fr0:=bR.frozen 0;have fr1:=bR.frozen 1;have fr2:=bR.frozen 2;have fr3:=bR.frozen 3;have fr4:=bR.frozen 4;have fr5:=bR.frozen 5;have fr6:=bR.frozen 6;have fr7:=bR.frozen 7
   have hlt : (w.heap.size + 1 + 1) < w9.heap.size:=bR.sz
   by_cases hz : er = 0
   ·subst hz
    have bRh:=hid bR
    have B9h:=hid B9
    clear hR hb9 bC bR B9 hck
    go_wp2
    clear r0 r1 r2 r3 r4 r5 r6 r7 fr0 fr1 fr2 fr3 fr4 fr5 fr6 fr7 k0 k1 k2 k3 k4 k5 k6 k7
    have bF:=put8 bRh.out rfl (.int .i64 mi) (.int .i64 ma) (.slice pa2 l2.length pc2) (.int .i64 ac) (.int .i64 th) (.int .i64 su) (.slice fa fs.length fc) (.slice q N qc)
    have hgF:=grown8 w9 (w.heap.size + 1 + 1) (.int .i64 mi) (.int .i64 ma) (.slice pa2 l2.length pc2) (.int .i64 ac) (.int .i64 th) (.int .i64 su) (.slice fa fs.length fc) (.slice q N qc)
    have HBF:=nwB B9h.out hgF ⟨by omega,B9h.out.size⟩
    have HCF:=HCl.out _ HBF (Kit.owns_grown HO10.out hgF (by omega)) (Kit.owns_grown HM10.out hgF HRX.out)
    obtain ⟨F,hF⟩ : ∃ F,F = ((((((((w9.setCell ⟨(w.heap.size + 1 + 1),0,none⟩ (.int .i64 mi)).setCell ⟨(w.heap.size + 1 + 1),1,none⟩ (.int .i64 ma)).setCell ⟨(w.heap.size + 1 + 1),2,none⟩ (.slice pa2 l2.length pc2)).setCell ⟨(w.heap.size + 1 + 1),3,none⟩ (.int .i64 ac)).setCell ⟨(w.heap.size + 1 + 1),4,none⟩ (.int .i64 th)).setCell ⟨(w.heap.size + 1 + 1),5,none⟩ (.int .i64 su)).setCell ⟨(w.heap.size + 1 + 1),6,none⟩ (.slice fa fs.length fc)).setCell ⟨(w.heap.size + 1 + 1),7,none⟩ (.slice q N qc)):=⟨_,rfl⟩
    rw [← hF] at bF HBF HCF ⊢
    clear hgF hF
    obtain ⟨r0,r1,r2,r3,r4,r5,r6,r7⟩:=bF.cells8
    exact bodyPost_ret (v:=.tuple #[.agg #[.int .i64 mi,.int .i64 ma,.slice pa2 l2.length pc2,.int .i64 ac,.int .i64 th,.int .i64 su,.slice fa fs.length fc,.slice q N qc],.int .i64 0]) (by simp [results,Tryz.results29,go_sem,r0,r1,r2,r3,r4,r5,r6,r7]) rfl (by rw [HQ.out];unfold RtPost;exact ⟨l1,i1,e1,l2,i2,0,HS1.out,HS2.out,.inr ⟨rfl,0,HRr.out,.inl ⟨rfl,_,rfl,HCF⟩⟩,HBF⟩)
   ·have hd : (er != 0) = true:=by simpa using hz
    have HZ:=hid hz
    have bRh:=hid bR
    have B9h:=hid B9
    clear hR hb9 bC bR B9 hck hz
    go_wp2
    clear r0 r1 r2 r3 r4 r5 r6 r7 fr0 fr1 fr2 fr3 fr4 fr5 fr6 fr7 k0 k1 k2 k3 k4 k5 k6 k7
    have bF:=put8 bRh.out rfl (.int .i64 0) (.int .i64 0) (.slice none 0 0) (.int .i64 0) (.int .i64 0) (.int .i64 0) (.slice none 0 0) (.slice none 0 0)
    have hgF:=grown8 w9 (w.heap.size + 1 + 1) (.int .i64 0) (.int .i64 0) (.slice none 0 0) (.int .i64 0) (.int .i64 0) (.int .i64 0) (.slice none 0 0) (.slice none 0 0)
    have HBF:=nwB B9h.out hgF ⟨by omega,B9h.out.size⟩
    obtain ⟨F,hF⟩ : ∃ F,F = ((((((((w9.setCell ⟨(w.heap.size + 1 + 1),0,none⟩ (.int .i64 0)).setCell ⟨(w.heap.size + 1 + 1),1,none⟩ (.int .i64 0)).setCell ⟨(w.heap.size + 1 + 1),2,none⟩ (.slice none 0 0)).setCell ⟨(w.heap.size + 1 + 1),3,none⟩ (.int .i64 0)).setCell ⟨(w.heap.size + 1 + 1),4,none⟩ (.int .i64 0)).setCell ⟨(w.heap.size + 1 + 1),5,none⟩ (.int .i64 0)).setCell ⟨(w.heap.size + 1 + 1),6,none⟩ (.slice none 0 0)).setCell ⟨(w.heap.size + 1 + 1),7,none⟩ (.slice none 0 0)):=⟨_,rfl⟩
    rw [← hF] at bF HBF ⊢
    clear hgF hF
    obtain ⟨r0,r1,r2,r3,r4,r5,r6,r7⟩:=bF.cells8
    exact bodyPost_ret (v:=.tuple #[.agg #[.int .i64 0,.int .i64 0,.slice none 0 0,.int .i64 0,.int .i64 0,.int .i64 0,.slice none 0 0,.slice none 0 0],.int .i64 er]) (by simp [results,Tryz.results29,go_sem,r0,r1,r2,r3,r4,r5,r6,r7]) rfl (by rw [HQ.out];unfold RtPost K0V;exact ⟨l1,i1,e1,l2,i2,0,HS1.out,HS2.out,.inr ⟨rfl,er,HRr.out,.inr ⟨HZ.out,rfl⟩⟩,HBF⟩)
set_option maxHeartbeats 4000000 in
theorem rwithF_at (mi ma ac th su : Int) (P : List L3.Cp.C) (fs ms : List Cf.Mb) (mac : Int) (co : List UInt8) (hs9 : List Cf.Hn) (pa fa ma2 : Option Addr) (pc fc mc : Nat) (a b : ByteArray) (w : World) (hco : co = []) (hhs : hs9 = []) (hp : Kit.IsS 5 w (.slice pa P.length pc) P.length (P.flatMap L3.cL)) (hf : MsR w (.slice fa fs.length fc) fs) (hm : MsR w (.slice ma2 ms.length mc) ms) (hl : PoolR P) (ha : a.size ≤ 140737488355328) (hb : b.size ≤ 140737488355328) (hms : (fs.length + 1) * 88 ≤ 140737488355328) (hcs : co.length ≤ 140737488355328) :
  Calls Tryz.prog 27 #[.agg #[.int .i64 mi,.int .i64 ma,.slice pa P.length pc,.int .i64 ac,.int .i64 th,.int .i64 su,.slice fa fs.length fc,.slice ma2 ms.length mc],.int .i64 mac,.string a,.string b] w (RtPost (mkF ⟨mi,ma,P,ac,th,su,fs,ms⟩) ⟨mi,ma,P,ac,th,su,fs,ms⟩ ⟨mac,0,0,0,0,co,hs9⟩ a b w):=by
 have HW:=hid (fun W (k : Below w.heap.size w W)=>rwith_at mi ma ac th su P fs ms mac 0 0 0 0 [] [] pa fa ma2 none none pc fc mc 0 0 a b W (hp.below k (Nat.le_refl _)) hl ha hb)
 simp only [List.length_nil] at HW
 have HMr:=hid (fun (i1 i2 : Nat) W (_ : Below w.heap.size w W)=>(show MbR W [.int .i64 mac,.int .i64 (i1 : Nat),.int .i64 (i2 : Nat),.int .i64 0,.int .i64 0,.slice none 0 0,.slice none 0 0] ⟨mac,(i1 : Nat),(i2 : Nat),0,0,co,hs9⟩ from by subst hco hhs;exact ⟨_,_,rfl,⟨by simp,.inl ⟨rfl,none,0,rfl⟩⟩,⟨rfl,by simp,.inl ⟨rfl,none,0,rfl⟩⟩,by simp⟩))
 have HF:=hid hf
 have HM:=hid hm
 have HL:=hid hms
 obtain ⟨rsl,hrs⟩:=HF.out
 have HRS:=hid hrs
 clear hp hf hm hl ha hb hms hcs hrs hco hhs
 obtain ⟨Q,hQ⟩ : ∃ Q,Q = RtPost (mkF ⟨mi,ma,P,ac,th,su,fs,ms⟩) ⟨mi,ma,P,ac,th,su,fs,ms⟩ ⟨mac,0,0,0,0,co,hs9⟩ a b w:=⟨_,rfl⟩
 have HQ:=hid hQ
 rw [← hQ]
 clear hQ
 show Calls _ _ _ _ fun e w'=>Q e w'
 go_enter Tryz.func27,Tryz.ntmps27
 go_wp2_with fail
 obtain ⟨W1,hW1⟩ : ∃ W1,W1 = ((w.alloc (.cells #[.int .i64 mi,.int .i64 ma,.slice pa P.length pc,.int .i64 ac,.int .i64 th,.int .i64 su,.slice fa fs.length fc,.slice ma2 ms.length mc] 26)).alloc (.cells #[.int .i64 0,.int .i64 0,.slice none 0 0,.int .i64 0,.int .i64 0,.int .i64 0,.slice none 0 0,.slice none 0 0] 26)):=⟨_,rfl⟩
 obtain ⟨bC,bR,hzW,B1⟩:=two hW1
 rw [← hW1]
 have HB1:=hid B1
 have BC1:=hid bC
 have BR1:=hid bR
 clear hW1 bC bR B1
 refine (HW.out W1 HB1.out).mono ?_
 rintro e w2 ⟨l1,i1,e1,l2,i2,e2,hs1,hs2,hcase,hb2⟩
 have HS1:=hid hs1
 have HS2:=hid hs2
 have hz2:=hb2.size
 have bC:=BC1.out.below hb2 BC1.out.sz
 have bR:=BR1.out.below hb2 BR1.out.sz
 have B2:=belows HB1.out hb2 HB1.out.size
 have HB2:=hid B2
 have BC2:=hid bC
 have BR2:=hid bR
 obtain ⟨k0,k1,k2,k3,k4,k5,k6,k7⟩:=bC.cells8;have fk0:=bC.frozen 0;have fk1:=bC.frozen 1;have fk2:=bC.frozen 2;have fk3:=bC.frozen 3;have fk4:=bC.frozen 4;have fk5:=bC.frozen 5;have fk6:=bC.frozen 6;have fk7:=bC.frozen 7;obtain ⟨r0,r1,r2,r3,r4,r5,r6,r7⟩:=bR.cells8;have fr0:=bR.frozen 0;have fr1:=bR.frozen 1;have fr2:=bR.frozen 2;have fr3:=bR.frozen 3;have fr4:=bR.frozen 4;have fr5:=bR.frozen 5;have fr6:=bR.frozen 6;have fr7:=bR.frozen 7
 clear hs1 hs2 bC bR B2
 have hlc:=BC2.out.sz
 have hlr:=BR2.out.sz
 rcases hcase with ⟨hz,rfl⟩|⟨rfl,hP2,pa2,pc2,rfl,hO⟩
 ·have hd : (e2 != 0) = true:=by simpa using hz
  have HZ:=hid hz
  clear hz hb2
  unfold K0V M0V
  go_wp2
  clear k0 k1 k2 k3 k4 k5 k6 k7 fk0 fk1 fk2 fk3 fk4 fk5 fk6 fk7 r0 r1 r2 r3 r4 r5 r6 r7 fr0 fr1 fr2 fr3 fr4 fr5 fr6 fr7
  have g1:=grown8 w2 w.heap.size (.int .i64 0) (.int .i64 0) (.slice none 0 0) (.int .i64 0) (.int .i64 0) (.int .i64 0) (.slice none 0 0) (.slice none 0 0)
  have bR:=BR2.out.grown g1 (fun e=>by (have:=Option.some.inj e;omega))
  have hgF:=grown8 ((((((((w2.setCell ⟨w.heap.size,0,none⟩ (.int .i64 0)).setCell ⟨w.heap.size,1,none⟩ (.int .i64 0)).setCell ⟨w.heap.size,2,none⟩ (.slice none 0 0)).setCell ⟨w.heap.size,3,none⟩ (.int .i64 0)).setCell ⟨w.heap.size,4,none⟩ (.int .i64 0)).setCell ⟨w.heap.size,5,none⟩ (.int .i64 0)).setCell ⟨w.heap.size,6,none⟩ (.slice none 0 0)).setCell ⟨w.heap.size,7,none⟩ (.slice none 0 0)) (w.heap.size + 1) (.int .i64 0) (.int .i64 0) (.slice none 0 0) (.int .i64 0) (.int .i64 0) (.int .i64 0) (.slice none 0 0) (.slice none 0 0)
  have bF:=put8 bR rfl (.int .i64 0) (.int .i64 0) (.slice none 0 0) (.int .i64 0) (.int .i64 0) (.int .i64 0) (.slice none 0 0) (.slice none 0 0)
  have HBF:=(nwB (nwB HB2.out g1 ⟨Nat.le_refl _,HB2.out.size⟩) hgF ⟨by omega,Nat.le_trans HB2.out.size g1.size⟩).alloc (by simp only [World.size_setCell];exact HB2.out.size) (.cells #[.int .i64 0,.int .i64 0,.int .i64 0,.int .i64 0,.int .i64 0,.slice none 0 0,.slice none 0 0] 42)
  have bF:=bF.below ((Below.refl _ _).alloc (Nat.le_refl _) (.cells #[.int .i64 0,.int .i64 0,.int .i64 0,.int .i64 0,.int .i64 0,.slice none 0 0,.slice none 0 0] 42)) bF.sz
  obtain ⟨F,hF⟩ : ∃ F,F = (((((((((((((((((w2.setCell ⟨w.heap.size,0,none⟩ (.int .i64 0)).setCell ⟨w.heap.size,1,none⟩ (.int .i64 0)).setCell ⟨w.heap.size,2,none⟩ (.slice none 0 0)).setCell ⟨w.heap.size,3,none⟩ (.int .i64 0)).setCell ⟨w.heap.size,4,none⟩ (.int .i64 0)).setCell ⟨w.heap.size,5,none⟩ (.int .i64 0)).setCell ⟨w.heap.size,6,none⟩ (.slice none 0 0)).setCell ⟨w.heap.size,7,none⟩ (.slice none 0 0)).setCell ⟨(w.heap.size + 1),0,none⟩ (.int .i64 0)).setCell ⟨(w.heap.size + 1),1,none⟩ (.int .i64 0)).setCell ⟨(w.heap.size + 1),2,none⟩ (.slice none 0 0)).setCell ⟨(w.heap.size + 1),3,none⟩ (.int .i64 0)).setCell ⟨(w.heap.size + 1),4,none⟩ (.int .i64 0)).setCell ⟨(w.heap.size + 1),5,none⟩ (.int .i64 0)).setCell ⟨(w.heap.size + 1),6,none⟩ (.slice none 0 0)).setCell ⟨(w.heap.size + 1),7,none⟩ (.slice none 0 0)).alloc (.cells #[.int .i64 0,.int .i64 0,.int .i64 0,.int .i64 0,.int .i64 0,.slice none 0 0,.slice none 0 0] 42)):=⟨_,rfl⟩
  rw [← hF] at bF HBF ⊢
  clear hgF hF bR g1
  obtain ⟨r0,r1,r2,r3,r4,r5,r6,r7⟩:=bF.cells8
  exact bodyPost_ret (v:=.tuple #[.agg #[.int .i64 0,.int .i64 0,.slice none 0 0,.int .i64 0,.int .i64 0,.int .i64 0,.slice none 0 0,.slice none 0 0],.int .i64 e2]) (by simp [results,Tryz.results27,go_sem,r0,r1,r2,r3,r4,r5,r6,r7]) rfl (by rw [HQ.out];unfold RtPost K0V;exact ⟨l1,i1,e1,l2,i2,e2,HS1.out,HS2.out,.inl ⟨HZ.out,rfl⟩,HBF⟩)
 ·have HP2:=hid hP2
  have HO:=hid hO
  clear hP2 hO hb2
  unfold mbV
  dsimp only
  go_upto_region 4 with fail
  clear k0 k1 k2 k3 k4 k5 k6 k7 fk0 fk1 fk2 fk3 fk4 fk5 fk6 fk7 r0 r1 r2 r3 r4 r5 r6 r7 fr0 fr1 fr2 fr3 fr4 fr5 fr6 fr7
  have g1:=grown8 w2 w.heap.size (.int .i64 mi) (.int .i64 ma) (.slice pa2 l2.length pc2) (.int .i64 ac) (.int .i64 th) (.int .i64 su) (.slice fa fs.length fc) (.slice ma2 ms.length mc)
  have hbA : Below ((((((((w2.setCell ⟨w.heap.size,0,none⟩ (.int .i64 mi)).setCell ⟨w.heap.size,1,none⟩ (.int .i64 ma)).setCell ⟨w.heap.size,2,none⟩ (.slice pa2 l2.length pc2)).setCell ⟨w.heap.size,3,none⟩ (.int .i64 ac)).setCell ⟨w.heap.size,4,none⟩ (.int .i64 th)).setCell ⟨w.heap.size,5,none⟩ (.int .i64 su)).setCell ⟨w.heap.size,6,none⟩ (.slice fa fs.length fc)).setCell ⟨w.heap.size,7,none⟩ (.slice ma2 ms.length mc)).heap.size ((((((((w2.setCell ⟨w.heap.size,0,none⟩ (.int .i64 mi)).setCell ⟨w.heap.size,1,none⟩ (.int .i64 ma)).setCell ⟨w.heap.size,2,none⟩ (.slice pa2 l2.length pc2)).setCell ⟨w.heap.size,3,none⟩ (.int .i64 ac)).setCell ⟨w.heap.size,4,none⟩ (.int .i64 th)).setCell ⟨w.heap.size,5,none⟩ (.int .i64 su)).setCell ⟨w.heap.size,6,none⟩ (.slice fa fs.length fc)).setCell ⟨w.heap.size,7,none⟩ (.slice ma2 ms.length mc)) (((((((((w2.setCell ⟨w.heap.size,0,none⟩ (.int .i64 mi)).setCell ⟨w.heap.size,1,none⟩ (.int .i64 ma)).setCell ⟨w.heap.size,2,none⟩ (.slice pa2 l2.length pc2)).setCell ⟨w.heap.size,3,none⟩ (.int .i64 ac)).setCell ⟨w.heap.size,4,none⟩ (.int .i64 th)).setCell ⟨w.heap.size,5,none⟩ (.int .i64 su)).setCell ⟨w.heap.size,6,none⟩ (.slice fa fs.length fc)).setCell ⟨w.heap.size,7,none⟩ (.slice ma2 ms.length mc)).alloc (.cells #[.int .i64 mac,.int .i64 (i1 : Nat),.int .i64 (i2 : Nat),.int .i64 0,.int .i64 0,.slice none 0 0,.slice none 0 0] 42)):=(Below.refl _ _).alloc (Nat.le_refl _) _
  have hsz : ((((((((w2.setCell ⟨w.heap.size,0,none⟩ (.int .i64 mi)).setCell ⟨w.heap.size,1,none⟩ (.int .i64 ma)).setCell ⟨w.heap.size,2,none⟩ (.slice pa2 l2.length pc2)).setCell ⟨w.heap.size,3,none⟩ (.int .i64 ac)).setCell ⟨w.heap.size,4,none⟩ (.int .i64 th)).setCell ⟨w.heap.size,5,none⟩ (.int .i64 su)).setCell ⟨w.heap.size,6,none⟩ (.slice fa fs.length fc)).setCell ⟨w.heap.size,7,none⟩ (.slice ma2 ms.length mc)).heap.size = w2.heap.size:=by simp only [World.size_setCell]
  have bC:=put8 BC2.out rfl (.int .i64 mi) (.int .i64 ma) (.slice pa2 l2.length pc2) (.int .i64 ac) (.int .i64 th) (.int .i64 su) (.slice fa fs.length fc) (.slice ma2 ms.length mc)
  have bC:=bC.below hbA bC.sz
  have bM:=L3.BX.new ((((((((w2.setCell ⟨w.heap.size,0,none⟩ (.int .i64 mi)).setCell ⟨w.heap.size,1,none⟩ (.int .i64 ma)).setCell ⟨w.heap.size,2,none⟩ (.slice pa2 l2.length pc2)).setCell ⟨w.heap.size,3,none⟩ (.int .i64 ac)).setCell ⟨w.heap.size,4,none⟩ (.int .i64 th)).setCell ⟨w.heap.size,5,none⟩ (.int .i64 su)).setCell ⟨w.heap.size,6,none⟩ (.slice fa fs.length fc)).setCell ⟨w.heap.size,7,none⟩ (.slice ma2 ms.length mc)) #[.int .i64 mac,.int .i64 (i1 : Nat),.int .i64 (i2 : Nat),.int .i64 0,.int .i64 0,.slice none 0 0,.slice none 0 0] 42
  rw [hsz] at bM
  have bR:=BR2.out.grown g1 (fun e=>by (have:=Option.some.inj e;omega))
  have bR:=bR.below hbA bR.sz
  have B2:=(nwB HB2.out g1 ⟨Nat.le_refl _,HB2.out.size⟩).alloc (by rw [hsz];exact HB2.out.size) (.cells #[.int .i64 mac,.int .i64 (i1 : Nat),.int .i64 (i2 : Nat),.int .i64 0,.int .i64 0,.slice none 0 0,.slice none 0 0] 42)
  obtain ⟨X,hX⟩ : ∃ X,X = (((((((((w2.setCell ⟨w.heap.size,0,none⟩ (.int .i64 mi)).setCell ⟨w.heap.size,1,none⟩ (.int .i64 ma)).setCell ⟨w.heap.size,2,none⟩ (.slice pa2 l2.length pc2)).setCell ⟨w.heap.size,3,none⟩ (.int .i64 ac)).setCell ⟨w.heap.size,4,none⟩ (.int .i64 th)).setCell ⟨w.heap.size,5,none⟩ (.int .i64 su)).setCell ⟨w.heap.size,6,none⟩ (.slice fa fs.length fc)).setCell ⟨w.heap.size,7,none⟩ (.slice ma2 ms.length mc)).alloc (.cells #[.int .i64 mac,.int .i64 (i1 : Nat),.int .i64 (i2 : Nat),.int .i64 0,.int .i64 0,.slice none 0 0,.slice none 0 0] 42)):=⟨_,rfl⟩
  have hO:=Kit.owns_below (Kit.owns_grown HO.out g1 (by omega)) hbA (Nat.le_refl _)
  rw [← hX] at bC bM bR B2 hO ⊢
  clear hX g1 hbA hlc hlr hsz HO
  have HC:=hid bC
  have HMm:=hid bM
  have HR:=hid bR
  have HB:=hid B2
  have HO:=hid hO
  obtain ⟨k0,k1,k2,k3,k4,k5,k6,k7⟩:=bC.cells8;obtain ⟨m0,m1,m2,m3,m4,m5,m6⟩:=bM.cells7
  have HRX:=hid HR.out.sz
  clear bC bM bR B2 hO BC2 BR2 HB2 BC1 BR1 HB1 HW
  go_cut [9] (fun b wx=>b = .int .i64 0 ∧ ∃ (q : Option Addr) (N qc : Nat),N = fs.length + 1 ∧ L3.BX wx w.heap.size #[.int .i64 mi,.int .i64 ma,.slice pa2 l2.length pc2,.int .i64 ac,.int .i64 th,.int .i64 su,.slice q N qc,.slice ma2 ms.length mc] 26 ∧ L3.BX wx (w.heap.size + 1) #[.int .i64 0,.int .i64 0,.slice none 0 0,.int .i64 0,.int .i64 0,.int .i64 0,.slice none 0 0,.slice none 0 0] 26 ∧ Below w.heap.size w wx ∧ L3.OwnC wx W1.heap.size (.slice pa2 l2.length pc2) l2 ∧ wx.ownsRow X.heap.size 42 7 (.slice q N qc) N (rsl.flatten ++ [.int .i64 mac,.int .i64 (i1 : Nat),.int .i64 (i2 : Nat),.int .i64 0,.int .i64 0,.slice none 0 0,.slice none 0 0]))
  case first =>
   have hlC:=HC.out.sz
   have hlM:=HMm.out.sz
   go_region_law (first
    | ((fail_if_success (have _g:=HO6));refine step_memw rfl (.const (.slice none 0 0)) (.tmp 28) rfl X.heap.size (.slice none 0 0) 0 [] rfl (⟨rfl,.inl ⟨rfl,rfl⟩⟩) (Nat.le_refl _) (.slice fa fs.length fc) fs.length rsl.flatten rfl (HRS.out.2.below (belows HB.out (show Below X.heap.size X X.drew from (Below.refl _ _).drew) HB.out.size) (Nat.le_refl _)) HRS.out.1.ones (by have:=HL.out;omega) ?_;intro b6 N6 c6 w6 hN6 ho6 hb6';have hb6 : Below X.heap.size X w6:=belows ((Below.refl _ _).drew) hb6' (Nat.le_refl _);have HO6:=hid (And.intro hN6 ho6);have HB6:=hid hb6;have bM:=HMm.out.below hb6 HMm.out.sz;obtain ⟨m0,m1,m2,m3,m4,m5,m6⟩:=bM.cells7;clear bM hN6 ho6 hb6 hb6')
    | ((fail_if_success (have _g:=HO6));refine step_memw rfl (.const (.slice none 0 0)) (.tmp 28) rfl (X.heap.size + 1) (.slice none 0 0) 0 [] rfl (⟨rfl,.inl ⟨rfl,rfl⟩⟩) (by simp) (.slice fa fs.length fc) fs.length rsl.flatten rfl (HRS.out.2.below (belows HB.out (show Below X.heap.size X (X.drew.alloc (.cells #[.int .i64 mac,.int .i64 (i1 : Nat),.int .i64 (i2 : Nat),.int .i64 0,.int .i64 0,.slice none 0 0,.slice none 0 0] 42)) from ((Below.refl _ _).drew).alloc (by simp) _) HB.out.size) (Nat.le_refl _)) HRS.out.1.ones (by have:=HL.out;omega) ?_;intro b6 N6 c6 w6 hN6 ho6 hb6';have hb6 : Below X.heap.size X w6:=(show Below X.heap.size X (X.drew.alloc (.cells #[.int .i64 mac,.int .i64 (i1 : Nat),.int .i64 (i2 : Nat),.int .i64 0,.int .i64 0,.slice none 0 0,.slice none 0 0] 42)) from ((Below.refl _ _).drew).alloc (by simp) _).trans (hb6'.mono (by omega));have HNM:=hid (show Kit.IsS 7 w6 (.slice (some ⟨X.heap.size,0,none⟩) 1 1) 1 [.int .i64 mac,.int .i64 (i1 : Nat),.int .i64 (i2 : Nat),.int .i64 0,.int .i64 0,.slice none 0 0,.slice none 0 0] from (new_mem X.drew 42 (.int .i64 mac) (.int .i64 (i1 : Nat)) (.int .i64 (i2 : Nat)) (.int .i64 0) (.int .i64 0) (.slice none 0 0) (.slice none 0 0)).below hb6' (by simp));have HS7:=hid (show X.heap.size + 1 ≤ w6.heap.size from by (have:=hb6'.size;simpa using this));have HO6:=hid (And.intro hN6 ho6);have HB6:=hid hb6;have bM:=HMm.out.below hb6 HMm.out.sz;obtain ⟨m0,m1,m2,m3,m4,m5,m6⟩:=bM.cells7;clear bM hN6 ho6 hb6 hb6')
    | (have _g:=HNM;refine step_memw rfl (.tmp 29) (.tmp 31) rfl (X.heap.size + 1) (.slice b6 N6 c6) N6 _ rfl HO6.out.2 HS7.out (.slice (some ⟨X.heap.size,0,none⟩) 1 1) 1 [.int .i64 mac,.int .i64 (i1 : Nat),.int .i64 (i2 : Nat),.int .i64 0,.int .i64 0,.slice none 0 0,.slice none 0 0] rfl HNM.out (mem_ones _ _ _ _ _ _ _ _ _ _ _) (by (have:=HO6.out.1;have:=HL.out;omega)) ?_;intro b7 N7 c7 w7 hN7 ho7' hb7';have ho7:=L3.own_mono (base':=X.heap.size) ho7' (by omega);have hb7 : Below X.heap.size X w7:=HB6.out.trans (hb7'.mono (by omega));have HO7:=hid (And.intro hN7 ho7);have HB7:=hid hb7;have bC:=HC.out.below hb7 HC.out.sz;have kk:=bC.cell 6;have fkk:=bC.frozen 6;simp at kk;clear bC hN7 ho7 hb7 hb7')
    | (have _g:=HO6;(fail_if_success (have _g:=HNM));refine step_memw rfl (.tmp 29) (.tmp 31) rfl X.heap.size (.slice b6 N6 c6) N6 _ rfl (World.ownsRow.alloc HO6.out.2 _) (by (have:=HB6.out.size;simp only [World.size_alloc];omega)) (.slice (some ⟨w6.heap.size,0,none⟩) 1 1) 1 [.int .i64 mac,.int .i64 (i1 : Nat),.int .i64 (i2 : Nat),.int .i64 0,.int .i64 0,.slice none 0 0,.slice none 0 0] rfl (new_mem w6 42 (.int .i64 mac) (.int .i64 (i1 : Nat)) (.int .i64 (i2 : Nat)) (.int .i64 0) (.int .i64 0) (.slice none 0 0) (.slice none 0 0)) (mem_ones _ _ _ _ _ _ _ _ _ _ _) (by (have:=HO6.out.1;have:=HL.out;omega)) ?_;intro b7 N7 c7 w7 hN7 ho7 hb7';have hb7 : Below X.heap.size X w7:=(HB6.out.alloc HB6.out.size _).trans hb7';have HO7:=hid (And.intro hN7 ho7);have HB7:=hid hb7;have bC:=HC.out.below hb7 HC.out.sz;have kk:=bC.cell 6;have fkk:=bC.frozen 6;simp at kk;clear bC hN7 ho7 hb7 hb7'))
   all_goals
    go_wp2_with fail
    go_meet
    have g7:=L3.set_grown w7 w.heap.size 6 (.slice b7 N7 c7)
    have bC:=(HC.out.below HB7.out HC.out.sz).set 6 (.slice b7 N7 c7)
    simp only [List.setIfInBounds_toArray,List.set_cons_zero,List.set_cons_succ] at bC
    have hlt:=HC.out.sz
    have hBW:=nwB (HB.out.trans (HB7.out.mono HB.out.size)) g7 ⟨Nat.le_refl _,Nat.le_trans HB.out.size HB7.out.size⟩
    have h9:=Kit.owns_grown HO7.out.2 g7 hlt
    rw [List.nil_append] at h9
    exact ⟨rfl,b7,N7,c7,(by have:=HO6.out.1;have:=HO7.out.1;omega),bC,(HR.out.below HB7.out HR.out.sz).grown g7 (fun e=>by (have:=Option.some.inj e;omega)),hBW,Kit.owns_grown (Kit.owns_below HO.out HB7.out (Nat.le_refl _)) g7 (by omega),h9⟩
  case rest =>
   obtain ⟨rfl,q,N,qc,hN,bC,bR,hBW,hO9,hMs⟩:=hcut
   have HCl:=hid (fun (Y : World) (hY : Below w.heap.size w Y) (o1 : L3.OwnC Y W1.heap.size (.slice pa2 l2.length pc2) l2) (o2 : Y.ownsRow X.heap.size 42 7 (.slice q N qc) N (rsl.flatten ++ [.int .i64 mac,.int .i64 (i1 : Nat),.int .i64 (i2 : Nat),.int .i64 0,.int .i64 0,.slice none 0 0,.slice none 0 0]))=>(show ClR Y #[.int .i64 mi,.int .i64 ma,.slice pa2 l2.length pc2,.int .i64 ac,.int .i64 th,.int .i64 su,.slice q N qc,.slice ma2 ms.length mc] (mkF ⟨mi,ma,P,ac,th,su,fs,ms⟩ l2 ⟨mac,(i1 : Nat),(i2 : Nat),0,0,co,hs9⟩) from by
    have hM9 : MsR Y (.slice q N qc) (fs ++ [⟨mac,(i1 : Nat),(i2 : Nat),0,0,co,hs9⟩]):=by
     refine ⟨rsl ++ [[.int .i64 mac,.int .i64 (i1 : Nat),.int .i64 (i2 : Nat),.int .i64 0,.int .i64 0,.slice none 0 0,.slice none 0 0]],MsC.app (HRS.out.1.below hY (Nat.le_refl _)) ⟨HMr.out i1 i2 _ hY,trivial⟩,?_⟩
     have h9:=Kit.isS_of_owns o2 (by have:=HL.out;omega)
     rw [List.length_append,List.flatten_append,List.length_cons,List.length_nil,show fs.length + (0 + 1) = N by omega]
     simpa using h9
    exact ⟨_,_,_,rfl,Kit.isS_of_owns o1 (by have:=HP2.out.len;show l2.length ≤ _;omega),hM9,HM.out.below hY (Nat.le_refl _)⟩))
   have HO9:=hid hO9
   have HMs:=hid hMs
   have hck:=rcheck04_any _ _ wc (HCl.out wc hBW hO9 hMs) (show ∀ x ∈ l2,_ from HP2.out.ok)
   have HCx:=hid bC
   have HRx:=hid bR
   have HBx:=hid hBW
   obtain ⟨k0,k1,k2,k3,k4,k5,k6,k7⟩:=bC.cells8
   clear bC bR hBW hO9 hMs HC HMm HR HB HO HF HM hN m0 m1 m2 m3 m4 m5 m6
   go_wp2_with fail
   refine hck.mono ?_
   rintro e w9 ⟨er,hR,rfl,hb9⟩
   have HRr:=hid hR
   have bR:=HRx.out.below hb9 HRx.out.sz
   have bC:=HCx.out.below hb9 HCx.out.sz
   have B9:=belows HBx.out hb9 HBx.out.size
   have HO10:=hid (Kit.owns_below HO9.out hb9 (Nat.le_refl _))
   have HM10:=hid (Kit.owns_below HMs.out hb9 (Nat.le_refl _))
   clear k0 k1 k2 k3 k4 k5 k6 k7
   obtain ⟨k0,k1,k2,k3,k4,k5,k6,k7⟩:=bC.cells8;obtain ⟨r0,r1,r2,r3,r4,r5,r6,r7⟩:=bR.cells8;have fr0:=bR.frozen 0;have fr1:=bR.frozen 1;have fr2:=bR.frozen 2;have fr3:=bR.frozen 3;have fr4:=bR.frozen 4;have fr5:=bR.frozen 5;have fr6:=bR.frozen 6;have fr7:=bR.frozen 7
   have hlt : (w.heap.size + 1) < w9.heap.size:=bR.sz
   by_cases hz : er = 0
   ·subst hz
    have bRh:=hid bR
    have B9h:=hid B9
    clear hR hb9 bC bR B9 hck
    go_wp2
    clear r0 r1 r2 r3 r4 r5 r6 r7 fr0 fr1 fr2 fr3 fr4 fr5 fr6 fr7 k0 k1 k2 k3 k4 k5 k6 k7
    have bF:=put8 bRh.out rfl (.int .i64 mi) (.int .i64 ma) (.slice pa2 l2.length pc2) (.int .i64 ac) (.int .i64 th) (.int .i64 su) (.slice q N qc) (.slice ma2 ms.length mc)
    have hgF:=grown8 w9 (w.heap.size + 1) (.int .i64 mi) (.int .i64 ma) (.slice pa2 l2.length pc2) (.int .i64 ac) (.int .i64 th) (.int .i64 su) (.slice q N qc) (.slice ma2 ms.length mc)
    have HBF:=nwB B9h.out hgF ⟨by omega,B9h.out.size⟩
    have HCF:=HCl.out _ HBF (Kit.owns_grown HO10.out hgF (by omega)) (Kit.owns_grown HM10.out hgF HRX.out)
    obtain ⟨F,hF⟩ : ∃ F,F = ((((((((w9.setCell ⟨(w.heap.size + 1),0,none⟩ (.int .i64 mi)).setCell ⟨(w.heap.size + 1),1,none⟩ (.int .i64 ma)).setCell ⟨(w.heap.size + 1),2,none⟩ (.slice pa2 l2.length pc2)).setCell ⟨(w.heap.size + 1),3,none⟩ (.int .i64 ac)).setCell ⟨(w.heap.size + 1),4,none⟩ (.int .i64 th)).setCell ⟨(w.heap.size + 1),5,none⟩ (.int .i64 su)).setCell ⟨(w.heap.size + 1),6,none⟩ (.slice q N qc)).setCell ⟨(w.heap.size + 1),7,none⟩ (.slice ma2 ms.length mc)):=⟨_,rfl⟩
    rw [← hF] at bF HBF HCF ⊢
    clear hgF hF
    obtain ⟨r0,r1,r2,r3,r4,r5,r6,r7⟩:=bF.cells8
    exact bodyPost_ret (v:=.tuple #[.agg #[.int .i64 mi,.int .i64 ma,.slice pa2 l2.length pc2,.int .i64 ac,.int .i64 th,.int .i64 su,.slice q N qc,.slice ma2 ms.length mc],.int .i64 0]) (by simp [results,Tryz.results27,go_sem,r0,r1,r2,r3,r4,r5,r6,r7]) rfl (by rw [HQ.out];unfold RtPost;exact ⟨l1,i1,e1,l2,i2,0,HS1.out,HS2.out,.inr ⟨rfl,0,HRr.out,.inl ⟨rfl,_,rfl,HCF⟩⟩,HBF⟩)
   ·have hd : (er != 0) = true:=by simpa using hz
    have HZ:=hid hz
    have bRh:=hid bR
    have B9h:=hid B9
    clear hR hb9 bC bR B9 hck hz
    go_wp2
    clear r0 r1 r2 r3 r4 r5 r6 r7 fr0 fr1 fr2 fr3 fr4 fr5 fr6 fr7 k0 k1 k2 k3 k4 k5 k6 k7
    have bF:=put8 bRh.out rfl (.int .i64 0) (.int .i64 0) (.slice none 0 0) (.int .i64 0) (.int .i64 0) (.int .i64 0) (.slice none 0 0) (.slice none 0 0)
    have hgF:=grown8 w9 (w.heap.size + 1) (.int .i64 0) (.int .i64 0) (.slice none 0 0) (.int .i64 0) (.int .i64 0) (.int .i64 0) (.slice none 0 0) (.slice none 0 0)
    have HBF:=nwB B9h.out hgF ⟨by omega,B9h.out.size⟩
    obtain ⟨F,hF⟩ : ∃ F,F = ((((((((w9.setCell ⟨(w.heap.size + 1),0,none⟩ (.int .i64 0)).setCell ⟨(w.heap.size + 1),1,none⟩ (.int .i64 0)).setCell ⟨(w.heap.size + 1),2,none⟩ (.slice none 0 0)).setCell ⟨(w.heap.size + 1),3,none⟩ (.int .i64 0)).setCell ⟨(w.heap.size + 1),4,none⟩ (.int .i64 0)).setCell ⟨(w.heap.size + 1),5,none⟩ (.int .i64 0)).setCell ⟨(w.heap.size + 1),6,none⟩ (.slice none 0 0)).setCell ⟨(w.heap.size + 1),7,none⟩ (.slice none 0 0)):=⟨_,rfl⟩
    rw [← hF] at bF HBF ⊢
    clear hgF hF
    obtain ⟨r0,r1,r2,r3,r4,r5,r6,r7⟩:=bF.cells8
    exact bodyPost_ret (v:=.tuple #[.agg #[.int .i64 0,.int .i64 0,.slice none 0 0,.int .i64 0,.int .i64 0,.int .i64 0,.slice none 0 0,.slice none 0 0],.int .i64 er]) (by simp [results,Tryz.results27,go_sem,r0,r1,r2,r3,r4,r5,r6,r7]) rfl (by rw [HQ.out];unfold RtPost K0V;exact ⟨l1,i1,e1,l2,i2,0,HS1.out,HS2.out,.inr ⟨rfl,er,HRr.out,.inr ⟨HZ.out,rfl⟩⟩,HBF⟩)
end Go.Proofs.YtnojgiflgmnjlaaGreatDoor
namespace Go.Proofs.YtnojgiflgmnjlaaGreatDoor
open Go Go.RowKit
theorem WtPost.ans {mk : List L3.Cp.C → Cf.Mb → Cf.Cl} {c : Cf.Cl} {m : Cf.Mb} {a b : ByteArray} {w : World} {e : Ending} {w' : World} (h : WtPost mk c m a b w e w') (hs : ∀ l n,PoolSz l → Cf.Sz (mk l n)) : Ans (WtR mk c m a b) w e w':=by
 obtain ⟨l1,i1,e1,l2,i2,e2,h1,h2,h3,hb⟩:=h
 rcases h3 with ⟨hz,rfl⟩|⟨hz,⟨hc,vs',rfl,ho,hp⟩|⟨er,hz3,hc,rfl⟩⟩
 ·unfold K0V;exact Ans.of (x:=Cf.K0) ⟨l1,i1,e1,l2,i2,e2,h1,h2,.inl ⟨hz,rfl,rfl⟩⟩ rfl (k0_reads _) hb
 ·exact Ans.of ⟨l1,i1,e1,l2,i2,e2,h1,h2,.inr ⟨hz,0,hc,.inl ⟨rfl,rfl,rfl⟩⟩⟩ rfl (ho.reads (hs _ _ hp)) hb
 ·unfold K0V;exact Ans.of (x:=Cf.K0) ⟨l1,i1,e1,l2,i2,e2,h1,h2,.inr ⟨hz,er,hc,.inr ⟨hz3,rfl,rfl⟩⟩⟩ rfl (k0_reads _) hb
theorem RtPost.ans {mk : List L3.Cp.C → Cf.Mb → Cf.Cl} {c : Cf.Cl} {m : Cf.Mb} {a b : ByteArray} {w : World} {e : Ending} {w' : World} (h : RtPost mk c m a b w e w') : Ans (WtR mk c m a b) w e w':=by
 obtain ⟨l1,i1,e1,l2,i2,e2,h1,h2,h3,hb⟩:=h
 rcases h3 with ⟨hz,rfl⟩|⟨hz,er,hc,⟨h0,vs',rfl,ho⟩|⟨h0,rfl⟩⟩
 ·unfold K0V;exact Ans.of (x:=Cf.K0) ⟨l1,i1,e1,l2,i2,e2,h1,h2,.inl ⟨hz,rfl,rfl⟩⟩ rfl (k0_reads _) hb
 ·exact Ans.of ⟨l1,i1,e1,l2,i2,e2,h1,h2,.inr ⟨hz,er,hc,.inl ⟨h0,rfl,rfl⟩⟩⟩ rfl ho hb
 ·unfold K0V;exact Ans.of (x:=Cf.K0) ⟨l1,i1,e1,l2,i2,e2,h1,h2,.inr ⟨hz,er,hc,.inr ⟨h0,rfl,rfl⟩⟩⟩ rfl (k0_reads _) hb
theorem NwPost.ans {a b : ByteArray} {w : World} {e : Ending} {w' : World} (h : NwPost a b w e w') : Ans (NwIs a b) w e w':=by
 obtain ⟨c,er,vs,h1,rfl,h2,-,hb⟩:=h
 exact Ans.of h1 rfl h2 hb
theorem makes_full (c : Cf.Cl) (vs : Array Value) (acc : Int) (a b : ByteArray) (m : Cf.Mb) (cv hv : Value) (w : World) (t1 : L1.Tabs w) (t3 : L3.Tabs w) (h : ClR w vs c) (hs : Cf.Szc c) (hz : PoolSz c.pool) (hq : ∀ x ∈ c.pool,x.s.size ≤ 140737488355328 ∧ L3.I6 x.n)
  (hB : L3.Bs w.heap.size w cv m.code) (hH : Kit.IsS 4 w hv m.hs.length (m.hs.flatMap hL)) (hmc : m.code.length ≤ 140737488355328) (hmh : m.hs.length * 32 ≤ 140737488355328) (ha : a.size ≤ 140737488355328) (hb : b.size ≤ 140737488355328) (hfs : (c.fs.length + 1) * 88 ≤ 140737488355328) (hms : (c.ms.length + 1) * 88 ≤ 140737488355328) :
  Calls Tryz.prog 6 #[.agg vs,.int .i64 acc,.string a,.string b,mbV m cv hv] w fun e w'=>e = .returned (.bool true) ∧ Below w.heap.size w w':=by
 have hpr : PoolR c.pool:=⟨hq,hz.1⟩
 have g1:=fun W (k : Below w.heap.size w W)=>(withField_any c vs acc a b W ⟨t1.below k t1.size,t3.below k t3.size,hz.1,hz.2⟩ (h.below k (Nat.le_refl _)) hs hz ha hb hfs).mono fun e w' x=>x.ans (fun l n hl=>⟨by have:=hl.1;show l.length ≤ _;omega,by show (c.fs ++ [n]).length ≤ _;rw [List.length_append,List.length_singleton];omega,by have:=hs.2.2.1;show c.ms.length ≤ _;omega⟩)
 have g3:=fun W (k : Below w.heap.size w W)=>(withMethod_any c vs m cv hv a b W ⟨t1.below k t1.size,t3.below k t3.size,hz.1,hz.2⟩ (h.below k (Nat.le_refl _)) hs hz ((hB.below k (Nat.le_refl _)).mono k.size) (hH.below k (Nat.le_refl _)) hmc hmh ha hb hms).mono fun e w' x=>x.ans (fun l n hl=>⟨by have:=hl.1;show l.length ≤ _;omega,by have:=hs.2.1;show c.fs.length ≤ _;omega,by show (c.ms ++ [n]).length ≤ _;rw [List.length_append,List.length_singleton];omega⟩)
 have g5:=fun W (k : Below w.heap.size w W)=>(new_any a b W (t3.below k t3.size)).mono fun e w' x=>NwPost.ans x
 have g6:=fun W (_ : Below w.heap.size w W)=>(rnew_any a b W).mono fun e w' x=>NwPost.ans x
 obtain ⟨pv,fv,mv,rfl,hp,hf,hm⟩:=h
 obtain ⟨pa,pc,rfl⟩:=hp.len
 obtain ⟨fa,fc,rfl⟩:=hf.len
 obtain ⟨ma2,mc,rfl⟩:=hm.len
 obtain ⟨xa,xc,rfl⟩:=hB.len
 obtain ⟨ya,yc,rfl⟩:=hH.len
 have g2:=fun W (k : Below w.heap.size w W)=>(rwithF_at c.mi c.ma c.ac c.th c.su c.pool c.fs c.ms acc [] [] pa fa ma2 pc fc mc a b W rfl rfl (hp.below k (Nat.le_refl _)) (hf.below k (Nat.le_refl _)) (hm.below k (Nat.le_refl _)) hpr ha hb hfs (by simp)).mono fun e w' x=>RtPost.ans x
 have g4:=fun W (k : Below w.heap.size w W)=>(rwithM_at c.mi c.ma c.ac c.th c.su c.pool c.fs c.ms m.ac m.nm m.ds m.st m.lc m.code m.hs pa fa ma2 pc fc mc xa ya xc yc a b W (hp.below k (Nat.le_refl _)) (hf.below k (Nat.le_refl _)) (hm.below k (Nat.le_refl _)) ((hB.below k (Nat.le_refl _)).mono k.size) (hH.below k (Nat.le_refl _)) hpr ha hb hms hmc).mono fun e w' x=>RtPost.ans x
 exact makes_law _ _ _ (fun h k=>WtR.det h k) (fun h k=>WtR.det h k) (fun h k=>NwIs.det h k) c.mi c.ma c.ac c.th c.su acc c.pool.length c.fs.length c.ms.length pa fa ma2 xa ya pc fc mc xc yc m.ac m.nm m.ds m.st m.lc m.code.length m.hs.length a b w t1 t3 g1 g2 g3 g4 g5 g6
end Go.Proofs.YtnojgiflgmnjlaaGreatDoor
namespace Go.Proofs.YtnojgiflgmnjlaaGreatDoor
open Go.ChangeShapes Go.WideShapes Go.ChangeAt Go.RowKit Go.WideMaps Go.WideElems
theorem i6_wf {z : Int} (h : (Lit.int .i64 z).wf = true) : L3.I6 z:=by
 simp [Lit.wf,IntKind.min,IntKind.max,IntKind.signed,IntKind.bits] at h
 unfold L3.I6
 omega
section
variable {H : Type} {enc : TypeId × Value → H}
theorem weights_allT {P : Program} {e : TypeId} : ∀ {ds : List (DataW H)} {d : DataW H},d ∈ ds → (DataW.weightsAll P e ds).all (·≤ reachBytes) = true → (d.weights P e).all (·≤ reachBytes) = true
 | [],_,h,_=>by cases h
 | x :: r,d,h,hw=>by
  simp only [DataW.weightsAll,List.all_append,Bool.and_eq_true] at hw
  rcases List.mem_cons.1 h with rfl|h
  ·exact hw.1
  ·exact weights_allT h hw.2
theorem bulk_pos (d : DataW H) : 1 ≤ Rows.uptoBulk d:=by
 cases d with
 | lit l=>cases l <;> simp [Rows.uptoBulk]
 | _=>simp [Rows.uptoBulk]
theorem bulk_len : ∀ l : List (DataW H),l.length ≤ Rows.uptoBulkAll l
 | []=>by simp [Rows.uptoBulkAll]
 | x :: r=>by have h1:=bulk_pos x;have h2:=bulk_len r;simp only [Rows.uptoBulkAll,List.length_cons];omega
theorem bulk_mem : ∀ {l : List (DataW H)} {d : DataW H},d ∈ l → Rows.uptoBulk d ≤ Rows.uptoBulkAll l
 | [],_,h=>by cases h
 | x :: r,d,h=>by
  simp only [Rows.uptoBulkAll]
  rcases List.mem_cons.1 h with rfl|h
  ·omega
  ·have:=bulk_mem h;omega
theorem A.cellsInt : Tryz.prog.cellsOf 3 = 1:=by kernel_rfl
theorem A.cellsI64 : Tryz.prog.cellsOf 2 = 1:=by kernel_rfl
theorem A.cellsStr : Tryz.prog.cellsOf 9 = 1:=by kernel_rfl
theorem A.cellsU8 : Tryz.prog.cellsOf 5 = 1:=by kernel_rfl
theorem A.bytesU8 : Tryz.prog.bytesOf 5 = 1:=by kernel_rfl
theorem bs_cell {W : World} {n : Nat} {k : Value} {y : DataW H × List MemPlace} (h : DataW.trod enc Tryz.prog W 0 (fun _=>true) true n 22 [k] = some y) (hw : (y.1.weights Tryz.prog 22).all (·≤ reachBytes) = true) :
  ∃ bs : List UInt8,L3.Bs W.heap.size W k bs ∧ bs.length ≤ 140737488351232 ∧ bs.length ≤ Rows.uptoBulk y.1:=by
 rcases open_ints Tryz.underlying22 Tryz.underlying5 A.cellsU8 h with ⟨hcs,rfl⟩|⟨a,len,cap,zs,hcs,_,hl,hm,hz,rfl,hcell,hwz⟩
 ·obtain rfl : k = .slice none 0 0:=by simpa using hcs
  exact ⟨[],⟨by simp,.inl ⟨rfl,none,0,rfl⟩⟩,by simp,by simp⟩
 ·obtain rfl : k = .slice (some a) len cap:=by simpa using hcs
  simp only [if_true] at hz
  simp only [DataW.weights,Tryz.underlying22,List.all_cons,Bool.and_eq_true,decide_eq_true_eq,A.bytesU8,Nat.mul_one] at hw
  have hcap : cap ≤ 140737488351232:=by
   have:=hw.1
   simp [lits,reachBytes] at this
   omega
  have hbl : len ≤ Rows.uptoBulk (.slice (lits .u8 (zs.take len)) (lits .u8 (zs.drop len)) : DataW H):=by
   have:=bulk_len (lits (H:=H) .u8 (zs.take len))
   simp only [Rows.uptoBulk]
   simp [lits] at this ⊢
   omega
  refine ⟨(zs.take len).map fun z=>UInt8.ofNat z.toNat,⟨by simp;omega,?_⟩,by simp;omega,by simp only [List.length_map,List.length_take];omega⟩
  have hlen : ((zs.take len).map fun z=>UInt8.ofNat z.toNat).length = len:=by simp;omega
  by_cases h0 : len = 0
  ·exact .inl ⟨by rw [h0];rfl,some a,cap,by rw [h0]⟩
  ·obtain ⟨b,off,rfl,hc⟩:=ints_at hcell (by omega)
   refine .inr ⟨b,off,cap,by rw [hlen],by rw [hlen];exact hl,?_,fun i c hi=>?_⟩
   ·exact World.block_lt_of_cell? W _ (hc 0 (by omega))
   ·have hil : i < len:=by
     rw [List.getElem?_eq_some_iff] at hi
     have:=hi.1
     omega
    rw [show W.cell? ⟨b,off + i,none⟩ = _ from hc i (by omega)]
    have hzi : zs[i]? = some (zs.getD i 0):=by simp [show i < zs.length by omega]
    have h1:=bounds_u8 (hwz _ (List.mem_of_getElem? hzi))
    rw [List.getElem?_map,List.getElem?_take_of_lt hil,hzi] at hi
    simp only [Option.map_some,Option.some.injEq] at hi
    subst hi
    unfold L3.bv
    rw [UInt8.toNat_ofNat']
    congr 3
    omega
theorem list_cell {α : Type} {W : World} {n : Nat} {k : Value} {y : DataW H × List MemPlace} {tS tE : TypeId} {s by_ : Nat} (G : DataW H → List Value → α → Prop) (hG : ∀ d cs x,G d cs x → cs.length = s) (hs : 0 < s)
  (hu : Tryz.prog.underlying tS = some (.slice tE)) (hco : Tryz.prog.cellsOf tE = s) (hby : Tryz.prog.bytesOf tE = by_) (hb0 : 0 < by_)
  (he : ∀ (m : Nat) (cs : List Value) (z : DataW H × List MemPlace),DataW.trod enc Tryz.prog W 0 (fun _=>true) true m tE cs = some z → (z.1.weights Tryz.prog tE).all (·≤ reachBytes) = true → ∃ x,G z.1 cs x)
  (h : DataW.trod enc Tryz.prog W 0 (fun _=>true) true n tS [k] = some y) (hw : (y.1.weights Tryz.prog tS).all (·≤ reachBytes) = true) :
  ∃ (xs : List α) (rs : List (List Value)),rs.length = xs.length ∧ (∀ (i : Nat) (r : List Value) (x : α),rs[i]? = some r → xs[i]? = some x → ∃ d,G d r x ∧ Rows.uptoBulk d ≤ Rows.uptoBulk y.1) ∧ Kit.IsS s W k xs.length rs.flatten ∧ xs.length * by_ ≤ 140737488351232 ∧ xs.length ≤ Rows.uptoBulk y.1:=by
 rcases DataW.trod_slice hu h with ⟨hcs,rfl⟩|⟨a,len,cap,elems,rest,m,-,hcs,rfl,-,hl,hm,hel,hcells,hsp,-⟩
 ·obtain rfl : k = .slice none 0 0:=by simpa using hcs
  exact ⟨[],[],rfl,fun i r x hr=>by simp at hr,⟨by simp,by simp,.inl ⟨rfl,none,0,rfl⟩⟩,by simp,by simp⟩
 ·obtain rfl : k = .slice (some a) len cap:=by simpa using hcs
  simp only [DataW.weights,hu,List.all_cons,List.all_append,Bool.and_eq_true,decide_eq_true_eq,hby] at hw
  have hcap : len * by_ ≤ 140737488351232:=by
   have h1:=hw.1
   simp only [List.length_map,reachBytes] at h1
   rw [hel] at h1
   exact Nat.le_trans (Nat.mul_le_mul_right _ (Nat.le_add_right _ _)) h1
  have hbl : len ≤ Rows.uptoBulk (.slice (elems.map (·.1)) (rest.map (·.1)) : DataW H):=by
   have:=bulk_len (elems.map (·.1))
   rw [List.length_map,hel] at this
   simp only [Rows.uptoBulk]
   omega
  have each : ∀ i,∃ q : List Value × Option α,i < len → q.1.length = s ∧ (∀ j,j < s → W.cell? ((a.add (i * s)).add j) = q.1[j]?) ∧ ∃ x d,q.2 = some x ∧ G d q.1 x ∧ Rows.uptoBulk d ≤ Rows.uptoBulk (.slice (elems.map (·.1)) (rest.map (·.1)) : DataW H):=by
   intro i
   by_cases hi : i < len
   ·have h1:=hcells i hi
    rw [hco,List.getElem?_eq_getElem (by omega),Option.bind_eq_some_iff] at h1
    obtain ⟨cs,hcs',htr⟩:=h1
    have hmem : elems[i].1 ∈ elems.map (·.1):=List.mem_map_of_mem (List.getElem_mem _)
    obtain ⟨x,hx⟩:=he _ _ _ htr (weights_allT hmem hw.2.1)
    refine ⟨(cs,some x),fun _=>⟨hG _ _ _ hx,fun j hj=>(World.cells?_some hcs').2.2 j hj,x,_,rfl,hx,?_⟩⟩
    have:=bulk_mem hmem
    simp only [Rows.uptoBulk]
    omega
   ·exact ⟨([],none),fun h=>absurd h hi⟩
  obtain ⟨f,hfx⟩:=Classical.skolem.1 each
  have hxs : ∃ xs : List α,xs.length = len ∧ ∀ i,i < len → xs[i]? = (f i).2:=by
   have : ∀ m,m ≤ len → ∃ xs : List α,xs.length = m ∧ ∀ i,i < m → xs[i]? = (f i).2:=by
    intro m
    induction m with
    | zero=>intro _;exact ⟨[],rfl,fun i hi=>by omega⟩
    | succ m ih =>
     intro hm
     obtain ⟨xs,h1,h2⟩:=ih (by omega)
     obtain ⟨-,-,x,d,hx,-⟩:=hfx m (by omega)
     refine ⟨xs ++ [x],by simp [h1],fun i hi=>?_⟩
     by_cases e : i < m
     ·rw [List.getElem?_append_left (by omega)];exact h2 i e
     ·obtain rfl : i = m:=by omega
      rw [List.getElem?_append_right (by omega),h1,Nat.sub_self,hx]
      rfl
   exact this len (Nat.le_refl _)
  obtain ⟨xs,hxl,hxe⟩:=hxs
  have hrl : ∀ r ∈ (List.range len).map (fun i=>(f i).1),r.length = s:=by
   intro r hr
   obtain ⟨i,hi,rfl⟩:=List.mem_map.1 hr
   exact (hfx i (List.mem_range.1 hi)).1
  have hfl : ∀ (rs : List (List Value)),(∀ r ∈ rs,r.length = s) → rs.flatten.length = rs.length * s ∧ ∀ i r,rs[i]? = some r → ∀ j,j < s → rs.flatten[i * s + j]? = r[j]?:=by
   intro rs
   induction rs with
   | nil=>intro _;exact ⟨by simp,fun i r hr=>by simp at hr⟩
   | cons r0 rs ih =>
    intro hr
    obtain ⟨h1,h2⟩:=ih (fun r h=>hr r (List.mem_cons_of_mem _ h))
    have h0:=hr r0 (by simp)
    refine ⟨by rw [List.flatten_cons,List.length_append,h0,h1,List.length_cons,Nat.succ_mul];omega,fun i r hi j hj=>?_⟩
    match i,hi with
    | 0,hi =>
     simp at hi
     subst hi
     rw [List.flatten_cons,List.getElem?_append_left (by omega)]
     simp
    | i + 1,hi =>
     rw [List.flatten_cons,List.getElem?_append_right (by rw [h0,Nat.succ_mul];omega),h0,← h2 i r (by simpa using hi) j hj]
     congr 1
     rw [Nat.succ_mul]
     omega
  obtain ⟨hfl1,hfl2⟩:=hfl _ hrl
  have hrlen : ((List.range len).map (fun i=>(f i).1)).length = len:=by simp
  refine ⟨xs,(List.range len).map (fun i=>(f i).1),by rw [hrlen,hxl],fun i r x hr hx=>?_,⟨by rw [hfl1,hrlen,hxl],by rw [hxl];exact Nat.le_trans (Nat.le_trans (Nat.le_mul_of_pos_right _ hb0) hcap) (by decide),?_⟩,by rw [hxl];exact hcap,by rw [hxl];exact hbl⟩
  ·have hi : i < len:=by
    have:=(List.getElem?_eq_some_iff.1 hx).1
    omega
   obtain ⟨-,-,x',d,hx',hg,hb⟩:=hfx i hi
   rw [hxe i hi,hx'] at hx
   cases hx
   rw [List.getElem?_map,List.getElem?_range hi] at hr
   simp only [Option.map_some,Option.some.injEq] at hr
   subst hr
   exact ⟨d,hg,hb⟩
  ·by_cases h0 : len = 0
   ·exact .inl ⟨by rw [hxl,h0],some a,cap,by rw [h0]⟩
   ·obtain ⟨b,o,spot⟩:=a
    have hsp0 : ∃ u,W.cell? (((⟨b,o,spot⟩ : Addr).add (0 * s)).add 0) = some u:=by
     obtain ⟨h1,h2,-⟩:=hfx 0 (by omega)
     refine ⟨(f 0).1[0]'(by omega),?_⟩
     rw [h2 0 hs,List.getElem?_eq_getElem]
    obtain ⟨u0,hsp0⟩:=hsp0
    have hspot : spot = none:=by
     have:=World.cell?_spot hsp0
     simpa [Addr.add] using this
    subst hspot
    have hat : ∀ i j,((⟨b,o,none⟩ : Addr).add i).add j = ⟨b,o + (i + j),none⟩:=by
     intro i j
     rw [add_plain,add_plain];congr 1;omega
    refine .inr ⟨b,o,cap,by rw [hxl],by rw [hxl];exact hl,?_,fun i u hi=>?_⟩
    ·have:=World.block_lt_of_cell? W _ hsp0
     simpa [Addr.add] using this
    ·have hil : i < len * s:=by
      have:=(List.getElem?_eq_some_iff.1 hi).1
      rw [hfl1,hrlen] at this
      exact this
     have hq : i / s < len:=Nat.div_lt_of_lt_mul (by rw [Nat.mul_comm];exact hil)
     have hr : i % s < s:=Nat.mod_lt _ hs
     have e : i / s * s + i % s = i:=by rw [Nat.mul_comm];exact Nat.div_add_mod i s
     have hget : ((List.range len).map (fun i=>(f i).1))[i / s]? = some (f (i / s)).1:=by rw [List.getElem?_map,List.getElem?_range hq];rfl
     have h1:=hfl2 (i / s) _ hget (i % s) hr
     rw [e] at h1
     have h2:=(hfx (i / s) hq).2.1 (i % s) hr
     rw [hat,e] at h2
     rw [h2,← h1]
     exact hi
end
end Go.Proofs.YtnojgiflgmnjlaaGreatDoor
namespace Go.Proofs.YtnojgiflgmnjlaaGreatDoor
open Go.ChangeShapes Go.WideShapes Go.ChangeAt Go.RowKit Go.WideMaps Go.WideElems
set_option maxRecDepth 100000
section
variable {H : Type} {enc : TypeId × Value → H}
theorem rs_map {α : Type} {f : α → List Value} {xs : List α} {rs : List (List Value)} (hl : rs.length = xs.length) (h : ∀ (i : Nat) (r : List Value) (x : α),rs[i]? = some r → xs[i]? = some x → r = f x) : rs.flatten = xs.flatMap f:=by
 have e : rs = xs.map f:=by
  apply List.ext_getElem?
  intro i
  rw [List.getElem?_map]
  by_cases hi : i < xs.length
  ·have h1 : rs[i]? = some rs[i]:=List.getElem?_eq_getElem (by omega)
   have h2 : xs[i]? = some xs[i]:=List.getElem?_eq_getElem hi
   rw [h1,h2,h i _ _ h1 h2]
   rfl
  ·rw [List.getElem?_eq_none (by omega),List.getElem?_eq_none (by omega)]
   rfl
 rw [e,List.flatMap_def]
theorem hn_cells {W : World} {n : Nat} {cs : List Value} {y : DataW H × List MemPlace} (h : DataW.trod enc Tryz.prog W 0 (fun _=>true) true n 58 cs = some y) : ∃ x : Cf.Hn,cs = hL x:=by
 obtain ⟨xs,m,-,hy,hl,hlen,hf⟩:=DataW.trod_struct Tryz.underlying58 h
 have hl4 : cs.length = 4:=hl.trans (by kernel_rfl)
 have hx4 : xs.length = 4:=hlen
 match xs,hx4 with
 | [x0,x1,x2,x3],_ =>
 match cs,hl4 with
 | [k0,k1,k2,k3],_ =>
 obtain ⟨a,e0,-,-⟩:=DataW.trod_int Tryz.underlying3 (hf 0 _ rfl)
 obtain ⟨b,e1,-,-⟩:=DataW.trod_int Tryz.underlying3 (hf 1 _ rfl)
 obtain ⟨c,e2,-,-⟩:=DataW.trod_int Tryz.underlying3 (hf 2 _ rfl)
 obtain ⟨d,e3,-,-⟩:=DataW.trod_int Tryz.underlying3 (hf 3 _ rfl)
 have q0 : ([k0,k1,k2,k3].drop 0).take (Tryz.prog.cellsOf 3) = [.int .i64 a]:=e0
 have q1 : ([k0,k1,k2,k3].drop 1).take (Tryz.prog.cellsOf 3) = [.int .i64 b]:=e1
 have q2 : ([k0,k1,k2,k3].drop 2).take (Tryz.prog.cellsOf 3) = [.int .i64 c]:=e2
 have q3 : ([k0,k1,k2,k3].drop 3).take (Tryz.prog.cellsOf 3) = [.int .i64 d]:=e3
 rw [A.cellsInt] at q0 q1 q2 q3
 simp only [List.drop_zero,List.take_succ_cons,List.take_zero,List.cons.injEq,and_true,List.drop_succ_cons] at q0 q1 q2 q3
 subst q0 q1 q2 q3
 exact ⟨⟨a,b,c,d⟩,rfl⟩
theorem hs_cell {W : World} {n : Nat} {k : Value} {y : DataW H × List MemPlace} (h : DataW.trod enc Tryz.prog W 0 (fun _=>true) true n 40 [k] = some y) (hw : (y.1.weights Tryz.prog 40).all (·≤ reachBytes) = true) :
  ∃ hs : List Cf.Hn,Kit.IsS 4 W k hs.length (hs.flatMap hL) ∧ hs.length * 32 ≤ 140737488351232 ∧ hs.length ≤ Rows.uptoBulk y.1:=by
 obtain ⟨xs,rs,h1,h2,h3,h4,h5⟩:=list_cell (s:=4) (by_:=32) (tE:=58) (fun (_ : DataW H) cs (x : Cf.Hn)=>cs = hL x) (fun _ _ x h=>by rw [h];rfl) (by decide) Tryz.underlying40 (by kernel_rfl) (by kernel_rfl) (by decide) (fun m cs z hz _=>hn_cells hz) h hw
 refine ⟨xs,?_,h4,h5⟩
 rw [← rs_map h1 (fun i r x hr hx=>by obtain ⟨d,hd,-⟩:=h2 i r x hr hx;exact hd)]
 exact h3
theorem A.cellsBs : Tryz.prog.cellsOf 22 = 1:=by kernel_rfl
theorem A.cellsHs : Tryz.prog.cellsOf 40 = 1:=by kernel_rfl
structure GoodM (m : Cf.Mb) (B : Nat) : Prop where
 ac : L3.I6 m.ac
 hs : m.hs.length * 32 ≤ 140737488351232
 cb : m.code.length ≤ B
 hb : m.hs.length ≤ B
theorem mb_cells {W : World} {n : Nat} {cs : List Value} {y : DataW H × List MemPlace} (h : DataW.trod enc Tryz.prog W 0 (fun _=>true) true n 42 cs = some y) (hw : (y.1.weights Tryz.prog 42).all (·≤ reachBytes) = true) :
  ∃ m : Cf.Mb,MbR W cs m ∧ GoodM m (Rows.uptoBulk y.1):=by
 obtain ⟨xs,m,-,hy,hl,hlen,hf⟩:=DataW.trod_struct Tryz.underlying42 h
 have hl7 : cs.length = 7:=hl.trans (by kernel_rfl)
 have hx7 : xs.length = 7:=hlen
 match xs,hx7 with
 | [x0,x1,x2,x3,x4,x5,x6],_ =>
 match cs,hl7 with
 | [k0,k1,k2,k3,k4,k5,k6],_ =>
 obtain ⟨a,e0,g0,w0⟩:=DataW.trod_int Tryz.underlying3 (hf 0 _ rfl)
 obtain ⟨b,e1,g1,-⟩:=DataW.trod_int Tryz.underlying3 (hf 1 _ rfl)
 obtain ⟨c,e2,g2,-⟩:=DataW.trod_int Tryz.underlying3 (hf 2 _ rfl)
 obtain ⟨d,e3,g3,-⟩:=DataW.trod_int Tryz.underlying3 (hf 3 _ rfl)
 obtain ⟨e,e4,g4,-⟩:=DataW.trod_int Tryz.underlying3 (hf 4 _ rfl)
 have q0 : ([k0,k1,k2,k3,k4,k5,k6].drop 0).take (Tryz.prog.cellsOf 3) = [.int .i64 a]:=e0
 have q1 : ([k0,k1,k2,k3,k4,k5,k6].drop 1).take (Tryz.prog.cellsOf 3) = [.int .i64 b]:=e1
 have q2 : ([k0,k1,k2,k3,k4,k5,k6].drop 2).take (Tryz.prog.cellsOf 3) = [.int .i64 c]:=e2
 have q3 : ([k0,k1,k2,k3,k4,k5,k6].drop 3).take (Tryz.prog.cellsOf 3) = [.int .i64 d]:=e3
 have q4 : ([k0,k1,k2,k3,k4,k5,k6].drop 4).take (Tryz.prog.cellsOf 3) = [.int .i64 e]:=e4
 have f5 : DataW.trod enc Tryz.prog W 0 (fun _=>true) true m 22 (([k0,k1,k2,k3,k4,k5,k6].drop 5).take (Tryz.prog.cellsOf 22)) = some x5:=hf 5 _ rfl
 have f6 : DataW.trod enc Tryz.prog W 0 (fun _=>true) true m 40 (([k0,k1,k2,k3,k4,k5,k6].drop 6).take (Tryz.prog.cellsOf 40)) = some x6:=hf 6 _ rfl
 rw [A.cellsInt] at q0 q1 q2 q3 q4
 rw [A.cellsBs] at f5
 rw [A.cellsHs] at f6
 simp only [List.drop_zero,List.take_succ_cons,List.take_zero,List.cons.injEq,and_true,List.drop_succ_cons] at q0 q1 q2 q3 q4 f5 f6
 subst q0 q1 q2 q3 q4
 subst hy
 simp only [DataW.weights,Tryz.underlying42,List.map_cons,List.map_nil,DataW.weightsEach,List.all_append,Bool.and_eq_true] at hw
 obtain ⟨bs,hb1,hb2,hb3⟩:=bs_cell f5 (by simp_all)
 obtain ⟨hs,hh1,hh2,hh3⟩:=hs_cell f6 (by simp_all)
 refine ⟨⟨a,b,c,d,e,bs,hs⟩,⟨k5,k6,rfl,hb1,hh1,by show bs.length ≤ _;omega⟩,⟨i6_wf w0,hh2,?_,?_⟩⟩
 ·show bs.length ≤ _
  simp only [Rows.uptoBulk,Rows.uptoBulkAll,List.map_cons,List.map_nil]
  omega
 ·show hs.length ≤ _
  simp only [Rows.uptoBulk,Rows.uptoBulkAll,List.map_cons,List.map_nil]
  omega
theorem msC_of {W : World} : ∀ {rs : List (List Value)} {ms : List Cf.Mb},rs.length = ms.length → (∀ (i : Nat) (r : List Value) (m : Cf.Mb),rs[i]? = some r → ms[i]? = some m → MbR W r m) → MsC W rs ms
 | [],[],_,_=>trivial
 | r :: rs,m :: ms,hl,h=>⟨h 0 r m rfl rfl,msC_of (by simpa using hl) fun i x y hx hy=>h (i + 1) x y (by simpa using hx) (by simpa using hy)⟩
 | [],_ :: _,hl,_=>by simp at hl
 | _ :: _,[],hl,_=>by simp at hl
theorem ms_cell {W : World} {n : Nat} {k : Value} {y : DataW H × List MemPlace} (h : DataW.trod enc Tryz.prog W 0 (fun _=>true) true n 24 [k] = some y) (hw : (y.1.weights Tryz.prog 24).all (·≤ reachBytes) = true) :
  ∃ ms : List Cf.Mb,MsR W k ms ∧ (∀ m ∈ ms,GoodM m (Rows.uptoBulk y.1)) ∧ ms.length * 88 ≤ 140737488351232 ∧ ms.length ≤ Rows.uptoBulk y.1:=by
 obtain ⟨xs,rs,h1,h2,h3,h4,h5⟩:=list_cell (s:=7) (by_:=88) (tE:=42) (fun (d : DataW H) cs (m : Cf.Mb)=>MbR W cs m ∧ GoodM m (Rows.uptoBulk d)) (fun _ _ x h=>h.1.len) (by decide) Tryz.underlying24 (by kernel_rfl) (by kernel_rfl) (by decide) (fun m cs z hz hw=>mb_cells hz hw) h hw
 refine ⟨xs,⟨rs,msC_of h1 fun i r x hr hx=>?_,h3⟩,fun m hm=>?_,h4,h5⟩
 ·obtain ⟨d,hd,-⟩:=h2 i r x hr hx
  exact hd.1
 ·obtain ⟨i,hi⟩:=List.mem_iff_getElem?.1 hm
  have hlt : i < rs.length:=by rw [h1];exact (List.getElem?_eq_some_iff.1 hi).1
  obtain ⟨d,hd,hb⟩:=h2 i _ m (List.getElem?_eq_getElem hlt) hi
  exact ⟨hd.2.ac,hd.2.hs,Nat.le_trans hd.2.cb hb,Nat.le_trans hd.2.hb hb⟩
end
end Go.Proofs.YtnojgiflgmnjlaaGreatDoor
