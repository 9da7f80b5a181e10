/- Own texts for the claim, part 23. -/
import Derived.Test.YtnojgiflgmnjlaaGreatDoorZM22
set_option maxRecDepth 100000
namespace Go.Proofs.YtnojgiflgmnjlaaGreatDoor
open Go.RowKit
theorem hdE_no {P : List L3.Cp.C} {l : List L1.Op1.Ins} {n : Nat} {h : Cf.Hn} (hn : ¬ (h.f < h.t ∧ Cf.begB l h.f = true ∧ Cf.begB l h.a = true ∧ (Cf.begB l h.t = true ∨ h.t = (n : Int)))) : Cf.hdE P l n h = 46:=by
 unfold Cf.hdE
 rw [if_neg hn]
theorem hdE_yes {P : List L3.Cp.C} {l : List L1.Op1.Ins} {n : Nat} {h : Cf.Hn} (hn : h.f < h.t ∧ Cf.begB l h.f = true ∧ Cf.begB l h.a = true ∧ (Cf.begB l h.t = true ∨ h.t = (n : Int))) : Cf.hdE P l n h = if h.y = 0 then 0 else Cf.claE P h.y:=by
 unfold Cf.hdE
 rw [if_pos hn]
inductive HdC (f t n : Int) (b1 b2 b3 : Bool) : Prop
 | a (h : t ≤ f) : HdC f t n b1 b2 b3
 | b (h : f < t) (h1 : b1 = false) : HdC f t n b1 b2 b3
 | c (h : f < t) (h1 : b1 = true) (h2 : b2 = false) : HdC f t n b1 b2 b3
 | d (h : f < t) (h1 : b1 = true) (h2 : b2 = true) (h3 : b3 = false) (h4 : t ≠ n) : HdC f t n b1 b2 b3
 | e (h : f < t) (h1 : b1 = true) (h2 : b2 = true) (h3 : b3 = true) : HdC f t n b1 b2 b3
 | f (h : f < t) (h1 : b1 = true) (h2 : b2 = true) (h3 : b3 = false) (h4 : t = n) : HdC f t n b1 b2 b3
theorem HdC.all (f t n : Int) (b1 b2 b3 : Bool) : HdC f t n b1 b2 b3:=by
 by_cases h : f < t
 ·cases b1
  ·exact .b h rfl
  ·cases b2
   ·exact .c h rfl rfl
   ·cases b3
    ·by_cases h4 : t = n
     ·exact .f h rfl rfl rfl h4
     ·exact .d h rfl rfl rfl h4
    ·exact .e h rfl rfl rfl
 ·exact .a (by omega)
set_option maxHeartbeats 4000000 in
theorem rcode_any (c : Cf.Cl) (vs : Array Value) (m : Cf.Mb) (cv hv : Value) (w : World) (h : ClR w vs c) (hB : L3.Bs w.heap.size w cv m.code) (hH : Kit.IsS 4 w hv m.hs.length (m.hs.flatMap hL)) (hc : m.code.length ≤ 140737488355328) :
  Calls Tryz.prog 119 #[.agg vs,mbV m cv hv] w fun e w'=>∃ er,Cf.CoIs c.pool m er ∧ e = .returned (.int .i64 er) ∧ Below w.heap.size w w':=by
 have HD:=hid (fun W (k : Below w.heap.size w W)=>L1.rdecode_any m.code cv W (isB_of_bs ((hB.below k (Nat.le_refl _)).mono k.size) hc))
 have HCl0:=fun i W (k : Below w.heap.size w W)=>rclass_any c i vs W (h.below k (Nat.le_refl _))
 have HO:=hid (fun er l d (h1 : L1.Op1.DecOut m.code l d) h2=>(⟨l,d,h1,h2⟩ : Cf.CoIs c.pool m er))
 have HV:=hid (fun W (k : Below w.heap.size w W)=>hH.below k (Nat.le_refl _))
 obtain ⟨pv,fv,mv,rfl,hp,hf,hm⟩:=h
 obtain ⟨pa,pc,rfl⟩:=hp.len
 obtain ⟨fa,fc,rfl⟩:=hf.len
 obtain ⟨ma,mc,rfl⟩:=hm.len
 obtain ⟨xa,xc,rfl⟩:=hB.len
 obtain ⟨ya,yc,rfl⟩:=hH.len
 have hhl:=hH.2.1
 have HCl:=hid HCl0
 obtain ⟨ac,nm,ds,st,lc,co,hs9⟩:=m
 unfold mbV
 dsimp only at HD HO HV hhl ⊢
 unfold L1.DecPost at HD
 clear hp hf hm hB hH hc HCl0
 by_cases h64 : 64 < hs9.length
 ·have d64 : decide (64 < (hs9.length : Int)) = true:=by simp;omega
  have d65 : decide (64 < hs9.length) = true:=by simpa using h64
  go_enter Tryz.func119,Tryz.ntmps119
  go_wp2_with (go_at_call 159;refine (HD.out _ BLw).mono ?_;rintro e w1 ⟨lv,l,d,rfl,hd,ho,hb1⟩;obtain ⟨la,lc2,rfl⟩:=L3.own_form ho;obtain ⟨bP,bM,hzM,B1⟩:=boxes2 hb1;have m5:=bM.cell 5;have m6:=bM.cell 6;simp at m5 m6;have HDd:=hid hd;by_cases hz : d = 0;all_goals (first|(subst hz;have hin:=dec_in hd rfl;have hll:=hin.2.1;have hcl:=hin.2.2;have HIS:=hid (Kit.isS_of_owns ho (by omega));clear hd ho hin)|(have hdd : (d != 0) = true:=(by simpa using hz);have HZ:=hid hz;clear hz hd ho)))
  ·go_ret
   exact ⟨3,HO.out 3 l 0 HDd.out (by rw [if_neg (by decide),if_pos h64]),rfl,B1⟩
  ·go_ret
   exact ⟨d,HO.out d l d HDd.out (by rw [if_pos HZ.out]),rfl,B1⟩
 ·have d64 : decide (64 < (hs9.length : Int)) = false:=by simp;omega
  have d65 : decide (64 < hs9.length) = false:=by simpa using h64
  have H64:=hid h64
  go_enter Tryz.func119,Tryz.ntmps119
  go_wp2_with (go_at_call 159;refine (HD.out _ BLw).mono ?_;rintro e w1 ⟨lv,l,d,rfl,hd,ho,hb1⟩;obtain ⟨la,lc2,rfl⟩:=L3.own_form ho;obtain ⟨bP,bM,hzM,B1⟩:=boxes2 hb1;have m5:=bM.cell 5;have m6:=bM.cell 6;simp at m5 m6;have HDd:=hid hd;by_cases hz : d = 0;all_goals (first|(subst hz;have hin:=dec_in hd rfl;have hll:=hin.2.1;have hcl:=hin.2.2;have HIS:=hid (Kit.isS_of_owns ho (by omega));clear hd ho hin)|(have hdd : (d != 0) = true:=(by simpa using hz);have HZ:=hid hz;clear hz hd ho)))
  rotate_left 1
  ·go_ret
   exact ⟨d,HO.out d l d HDd.out (by rw [if_pos HZ.out]),rfl,B1⟩
  have BP:=hid bP
  have BM:=hid bM
  have BB:=hid B1
  clear bP bM B1 hb1 hzM
  go_loopw [7] (fun i wr=>∃ k : Nat,k ≤ hs9.length ∧ i = .int .i64 k ∧ Below w1.heap.size w1 wr ∧ Hid (∀ j,j < k → Cf.HnIs c.pool l co.length hs9 j 0)) (fun i _=>hs9.length - (intOf i).toNat)
  case atStart=>exact ⟨0,by omega,rfl,Below.refl _ _,fun j hj=>by omega⟩
  case round =>
   obtain ⟨k,hk,rfl,hJ,HAll⟩:=hrel
   have HJ:=hid hJ
   have hBr : Below w.heap.size w wr:=belows BB.out hJ BB.out.size
   have hBM:=BM.out.below hJ BM.out.sz
   have hBP:=BP.out.below hJ BP.out.sz
   have hz1:=hBM.sz
   clear m5 m6
   have m5:=hBM.cell 5
   have m6:=hBM.cell 6
   simp at m5 m6
   by_cases hlt : k < hs9.length
   ·obtain ⟨⟨f,t,a9,y⟩,hx⟩ : ∃ x,hs9[k]? = some x:=⟨hs9[k],List.getElem?_eq_getElem hlt⟩
    obtain ⟨b,o,cap',hv2,hbb,c0,c1,c2,c3⟩:=h_at (HV.out wr hBr) hx
    obtain ⟨rfl,-,rfl⟩:=Value.slice.inj hv2
    have hki : (k : Int) < (hs9.length : Int):=by omega
    dsimp only at c0 c1 c2 c3
    have HR0:=hid (show Cf.HnIs c.pool l co.length hs9 k (Cf.hdE c.pool l co.length ⟨f,t,a9,y⟩) from ⟨_,hx,rfl⟩)
    have HB0':=fun p W (q : Below wr.heap.size wr W)=>rbegins_any l p (.slice la l.length lc2) W ((HIS.out.below hJ (Nat.le_refl _)).below q (Nat.le_refl _))
    have hcase:=HdC.all f t co.length (Cf.begB l f) (Cf.begB l a9) (Cf.begB l t)
    have hyes:=@hdE_yes c.pool l co.length ⟨f,t,a9,y⟩
    have hno:=@hdE_no c.pool l co.length ⟨f,t,a9,y⟩
    have hb1':=HB0' f
    have hb2':=HB0' a9
    have hb3':=HB0' t
    obtain ⟨b1,hb1⟩ : ∃ b,b = Cf.begB l f:=⟨_,rfl⟩
    obtain ⟨b2,hb2⟩ : ∃ b,b = Cf.begB l a9:=⟨_,rfl⟩
    obtain ⟨b3,hb3⟩ : ∃ b,b = Cf.begB l t:=⟨_,rfl⟩
    dsimp only at hyes hno
    rw [← hb1] at hcase hyes hno hb1'
    rw [← hb2] at hcase hyes hno hb2'
    rw [← hb3] at hcase hyes hno hb3'
    clear hb1 hb2 hb3 HB0' hv2 hx hJ
    have bP8:=hBP
    have q0:=hBP.cell 0;have q1:=hBP.cell 1;have q2:=hBP.cell 2;have q3:=hBP.cell 3;have q4:=hBP.cell 4;have q5:=hBP.cell 5;have q6:=hBP.cell 6;have q7:=hBP.cell 7
    simp at q0 q1 q2 q3 q4 q5 q6 q7
    have hzp:=hBP.sz
    have HB1:=hid hb1'
    have HB2:=hid hb2'
    have HB3:=hid hb3'
    clear hBM hBP bP8 hb1' hb2' hb3'
    rcases hcase with h|⟨h,rfl⟩|⟨h,rfl,rfl⟩|⟨h,rfl,rfl,rfl,h4⟩|⟨h,rfl,rfl,rfl⟩|⟨h,rfl,rfl,rfl,h4⟩
    ·have HX:=hid (hno (by rintro ⟨h1,-⟩;omega))
     clear hyes hno
     (go_wp2_with (go_at_call 160;first|((with_reducible refine (HB1.out _ ?_).mono ?_);exact BLw;rintro e w' ⟨rfl,rfl⟩)|((with_reducible refine (HB2.out _ ?_).mono ?_);exact BLw;rintro e w' ⟨rfl,rfl⟩)|((with_reducible refine (HB3.out _ ?_).mono ?_);exact BLw;rintro e w' ⟨rfl,rfl⟩));go_ret;exact ⟨46,HO.out 46 l 0 HDd.out (by rw [if_neg (by decide),if_neg H64.out];exact Cf.FstR.at HAll.out hlt (by have:=HR0.out;rwa [HX.out] at this) (by decide)),rfl,BLw⟩)
    ·have HX:=hid (hno (by simp))
     have hn : ¬ t ≤ f:=by omega
     clear hyes hno
     (go_wp2_with (go_at_call 160;first|((with_reducible refine (HB1.out _ ?_).mono ?_);exact BLw;rintro e w' ⟨rfl,rfl⟩)|((with_reducible refine (HB2.out _ ?_).mono ?_);exact BLw;rintro e w' ⟨rfl,rfl⟩)|((with_reducible refine (HB3.out _ ?_).mono ?_);exact BLw;rintro e w' ⟨rfl,rfl⟩));go_ret;exact ⟨46,HO.out 46 l 0 HDd.out (by rw [if_neg (by decide),if_neg H64.out];exact Cf.FstR.at HAll.out hlt (by have:=HR0.out;rwa [HX.out] at this) (by decide)),rfl,BLw⟩)
    ·have HX:=hid (hno (by simp))
     have hn : ¬ t ≤ f:=by omega
     clear hyes hno
     (go_wp2_with (go_at_call 160;first|((with_reducible refine (HB1.out _ ?_).mono ?_);exact BLw;rintro e w' ⟨rfl,rfl⟩)|((with_reducible refine (HB2.out _ ?_).mono ?_);exact BLw;rintro e w' ⟨rfl,rfl⟩)|((with_reducible refine (HB3.out _ ?_).mono ?_);exact BLw;rintro e w' ⟨rfl,rfl⟩));go_ret;exact ⟨46,HO.out 46 l 0 HDd.out (by rw [if_neg (by decide),if_neg H64.out];exact Cf.FstR.at HAll.out hlt (by have:=HR0.out;rwa [HX.out] at this) (by decide)),rfl,BLw⟩)
    ·have HX:=hid (hno (by simp [h4]))
     have hn : ¬ t ≤ f:=by omega
     have h4d : (t != (co.length : Int)) = true:=by simpa using h4
     clear hyes hno
     (go_wp2_with (go_at_call 160;first|((with_reducible refine (HB1.out _ ?_).mono ?_);exact BLw;rintro e w' ⟨rfl,rfl⟩)|((with_reducible refine (HB2.out _ ?_).mono ?_);exact BLw;rintro e w' ⟨rfl,rfl⟩)|((with_reducible refine (HB3.out _ ?_).mono ?_);exact BLw;rintro e w' ⟨rfl,rfl⟩));go_ret;exact ⟨46,HO.out 46 l 0 HDd.out (by rw [if_neg (by decide),if_neg H64.out];exact Cf.FstR.at HAll.out hlt (by have:=HR0.out;rwa [HX.out] at this) (by decide)),rfl,BLw⟩)
    ·have hx1:=hyes ⟨h,rfl,rfl,.inl rfl⟩
     have hn : ¬ t ≤ f:=by omega
     clear hyes hno
     (by_cases hy : y = 0;(·subst hy;rw [if_pos rfl] at hx1;have HX:=hid hx1;clear hx1;(go_wp2_with (go_at_call 160;first|((with_reducible refine (HB1.out _ ?_).mono ?_);exact BLw;rintro e w' ⟨rfl,rfl⟩)|((with_reducible refine (HB2.out _ ?_).mono ?_);exact BLw;rintro e w' ⟨rfl,rfl⟩)|((with_reducible refine (HB3.out _ ?_).mono ?_);exact BLw;rintro e w' ⟨rfl,rfl⟩)));go_roundw;(case rel=>exact ⟨k + 1,by omega,by go_num,(HJ.out.alloc HJ.out.size _),(fun j hj=>by (by_cases e : j = k;(·subst e;have:=HR0.out;rwa [HX.out] at this);(·exact HAll.out j (by omega))))⟩);(case measure=>simp [intOf];omega));(·rw [if_neg hy] at hx1;have hyd : (y == 0) = false:=(by simpa using hy);have hcl0:=HCl.out y;obtain ⟨ce,hce⟩ : ∃ ce,ce = Cf.claE c.pool y:=⟨_,rfl⟩;rw [← hce] at hx1 hcl0;have HX:=hid hx1;have HC2:=hid hcl0;clear hx1 hcl0 hce hy;by_cases hz : ce = 0;(·subst hz;(go_wp2_with (first|(go_at_call 160;first|((with_reducible refine (HB1.out _ ?_).mono ?_);exact BLw;rintro e w' ⟨rfl,rfl⟩)|((with_reducible refine (HB2.out _ ?_).mono ?_);exact BLw;rintro e w' ⟨rfl,rfl⟩)|((with_reducible refine (HB3.out _ ?_).mono ?_);exact BLw;rintro e w' ⟨rfl,rfl⟩))|(go_at_call 58;refine (HC2.out _ BLw).mono ?_;rintro e W2 ⟨rfl,hb2⟩;obtain ⟨bH,hzH,B2⟩:=belows1 hb2)));go_roundw;(case rel=>exact ⟨k + 1,by omega,by go_num,belows HJ.out B2 HJ.out.size,(fun j hj=>by (by_cases e : j = k;(·subst e;have:=HR0.out;rwa [HX.out] at this);(·exact HAll.out j (by omega))))⟩);(case measure=>simp [intOf];omega));(·have hzd : (ce != 0) = true:=(by simpa using hz);have HZ:=hid hz;clear hz;(go_wp2_with (first|(go_at_call 160;first|((with_reducible refine (HB1.out _ ?_).mono ?_);exact BLw;rintro e w' ⟨rfl,rfl⟩)|((with_reducible refine (HB2.out _ ?_).mono ?_);exact BLw;rintro e w' ⟨rfl,rfl⟩)|((with_reducible refine (HB3.out _ ?_).mono ?_);exact BLw;rintro e w' ⟨rfl,rfl⟩))|(go_at_call 58;refine (HC2.out _ BLw).mono ?_;rintro e W2 ⟨rfl,hb2⟩;obtain ⟨bH,hzH,B2⟩:=belows1 hb2)));go_ret;exact ⟨ce,HO.out ce l 0 HDd.out (by rw [if_neg (by decide),if_neg H64.out];exact Cf.FstR.at HAll.out hlt (by have:=HR0.out;rwa [HX.out] at this) HZ.out),rfl,belows hBr B2 hBr.size⟩)))
    ·have hx1:=hyes ⟨h,rfl,rfl,.inr h4⟩
     have hn : ¬ t ≤ f:=by omega
     have h4d : (t != (co.length : Int)) = false:=by simpa using h4
     clear hyes hno h4
     (by_cases hy : y = 0;(·subst hy;rw [if_pos rfl] at hx1;have HX:=hid hx1;clear hx1;(go_wp2_with (go_at_call 160;first|((with_reducible refine (HB1.out _ ?_).mono ?_);exact BLw;rintro e w' ⟨rfl,rfl⟩)|((with_reducible refine (HB2.out _ ?_).mono ?_);exact BLw;rintro e w' ⟨rfl,rfl⟩)|((with_reducible refine (HB3.out _ ?_).mono ?_);exact BLw;rintro e w' ⟨rfl,rfl⟩)));go_roundw;(case rel=>exact ⟨k + 1,by omega,by go_num,(HJ.out.alloc HJ.out.size _),(fun j hj=>by (by_cases e : j = k;(·subst e;have:=HR0.out;rwa [HX.out] at this);(·exact HAll.out j (by omega))))⟩);(case measure=>simp [intOf];omega));(·rw [if_neg hy] at hx1;have hyd : (y == 0) = false:=(by simpa using hy);have hcl0:=HCl.out y;obtain ⟨ce,hce⟩ : ∃ ce,ce = Cf.claE c.pool y:=⟨_,rfl⟩;rw [← hce] at hx1 hcl0;have HX:=hid hx1;have HC2:=hid hcl0;clear hx1 hcl0 hce hy;by_cases hz : ce = 0;(·subst hz;(go_wp2_with (first|(go_at_call 160;first|((with_reducible refine (HB1.out _ ?_).mono ?_);exact BLw;rintro e w' ⟨rfl,rfl⟩)|((with_reducible refine (HB2.out _ ?_).mono ?_);exact BLw;rintro e w' ⟨rfl,rfl⟩)|((with_reducible refine (HB3.out _ ?_).mono ?_);exact BLw;rintro e w' ⟨rfl,rfl⟩))|(go_at_call 58;refine (HC2.out _ BLw).mono ?_;rintro e W2 ⟨rfl,hb2⟩;obtain ⟨bH,hzH,B2⟩:=belows1 hb2)));go_roundw;(case rel=>exact ⟨k + 1,by omega,by go_num,belows HJ.out B2 HJ.out.size,(fun j hj=>by (by_cases e : j = k;(·subst e;have:=HR0.out;rwa [HX.out] at this);(·exact HAll.out j (by omega))))⟩);(case measure=>simp [intOf];omega));(·have hzd : (ce != 0) = true:=(by simpa using hz);have HZ:=hid hz;clear hz;(go_wp2_with (first|(go_at_call 160;first|((with_reducible refine (HB1.out _ ?_).mono ?_);exact BLw;rintro e w' ⟨rfl,rfl⟩)|((with_reducible refine (HB2.out _ ?_).mono ?_);exact BLw;rintro e w' ⟨rfl,rfl⟩)|((with_reducible refine (HB3.out _ ?_).mono ?_);exact BLw;rintro e w' ⟨rfl,rfl⟩))|(go_at_call 58;refine (HC2.out _ BLw).mono ?_;rintro e W2 ⟨rfl,hb2⟩;obtain ⟨bH,hzH,B2⟩:=belows1 hb2)));go_ret;exact ⟨ce,HO.out ce l 0 HDd.out (by rw [if_neg (by decide),if_neg H64.out];exact Cf.FstR.at HAll.out hlt (by have:=HR0.out;rwa [HX.out] at this) HZ.out),rfl,belows hBr B2 hBr.size⟩)))
   ·obtain rfl : k = hs9.length:=by omega
    have hki : ¬ ((hs9.length : Int) < (hs9.length : Int)):=by omega
    go_wp2
    go_ret
    exact ⟨0,HO.out 0 l 0 HDd.out (by rw [if_neg (by decide),if_neg H64.out];exact Cf.FstR.all HAll.out),rfl,hBr⟩
end Go.Proofs.YtnojgiflgmnjlaaGreatDoor
namespace Go.Proofs.YtnojgiflgmnjlaaGreatDoor
open Go.RowKit
set_option maxHeartbeats 1000000 in
theorem rcodes_any (P : List L3.Cp.C) (v : Value) (w : World) (hv : Kit.IsS 5 w v P.length (P.flatMap L3.cL)) :
  Calls Tryz.prog 50 #[v] w fun e w'=>e = .returned (.int .i64 (Cf.cix P : Nat)) ∧ Below w.heap.size w w':=by
 have HF0:=fun W (k : Below w.heap.size w W)=>(show Calls Tryz.prog 98 #[v,.agg (L3.cC Cf.codeC)] W fun e w'=>e = .returned (.tuple #[.int .i64 (Cf.cix P : Nat),.bool (decide (Cf.cix P ≠ 0))]) ∧ Below W.heap.size W w' from (L3.rfind_any P Cf.codeC v W (hv.below k (Nat.le_refl _))).mono (by
  rintro e w' ⟨r,b,hr,rfl,hb⟩
  obtain ⟨rfl,rfl⟩:=Cf.fi_cix hr
  exact ⟨rfl,hb⟩))
 unfold L3.cC Cf.codeC Cf.codeS at HF0
 dsimp only at HF0
 obtain ⟨n,hn⟩ : ∃ n,n = Cf.cix P:=⟨_,rfl⟩
 rw [← hn] at HF0 ⊢
 obtain ⟨a,cap,rfl⟩:=hv.len
 clear hv hn
 by_cases h0 : n = 0
 ·subst h0
  rw [decide_eq_false (by simp)] at HF0
  have HF:=hid HF0
  clear HF0
  go_enter Tryz.func50,Tryz.ntmps50
  go_wp2_with (go_at_call 98;refine (HF.out _ BLw).mono ?_;rintro e w1 ⟨rfl,hb1⟩)
  go_ret
  exact ⟨rfl,BLw⟩
 ·rw [decide_eq_true h0] at HF0
  have HF:=hid HF0
  clear HF0 h0
  go_enter Tryz.func50,Tryz.ntmps50
  go_wp2_with (go_at_call 98;refine (HF.out _ BLw).mono ?_;rintro e w1 ⟨rfl,hb1⟩)
  go_ret
  exact ⟨rfl,BLw⟩
theorem region_named {P : Program} {id : Nat} {ops : Array Oper} {b : Bool} {Q : Exit → Act → World → Prop} {a : Act} {w : World} (h : ∀ W,W = w → (Code.region id ops b).wp P Q a W) : (Code.region id ops b).wp P Q a w:=h w rfl
set_option maxHeartbeats 1000000 in
theorem rnamed_any (c : Cf.Cl) (vs : Array Value) (m : Cf.Mb) (cv hv : Value) (w : World) (h : ClR w vs c) :
  Calls Tryz.prog 114 #[.agg vs,mbV m cv hv] w fun e w'=>e = .returned (.tuple #[ndV (Cf.nmO c.pool m).1,.int .i64 (Cf.nmO c.pool m).2]) ∧ Below w.heap.size w w':=by
 have HM0:=fun W (k : Below w.heap.size w W)=>rmember_any c vs m cv hv W (h.below k (Nat.le_refl _))
 obtain ⟨pv,fv,mv,rfl,-,-,-⟩:=h
 unfold Cf.nmO
 obtain ⟨⟨⟨n1,n2⟩,er⟩,hx⟩ : ∃ x,x = Cf.mbO c.pool m:=⟨_,rfl⟩
 rw [← hx] at HM0 ⊢
 dsimp only at HM0 ⊢
 have HN0:=fun W=>L2.rmemberName_any n1 W
 obtain ⟨me,hme⟩ : ∃ me,me = L2.memE (L2.Ds.bl n1):=⟨_,rfl⟩
 rw [← hme] at HN0 ⊢
 unfold Cf.accB
 unfold ndV mbV at HM0 ⊢
 have HM:=hid HM0
 have HN:=hid HN0
 obtain ⟨x,hbx⟩ : ∃ x,x = bits .andNot .i64 m.ac 9:=⟨_,rfl⟩
 rw [← hbx]
 have hbx2:=hbx.symm
 clear HM0 HN0 hx hme hbx
 by_cases h1 : (x != 0) = true
 ·rw [if_pos h1]
  go_enter Tryz.func114,Tryz.ntmps114
  go_wp2
  exact bodyPost_ret (v:=.tuple #[.agg #[.string ⟨#[]⟩,.string ⟨#[]⟩,.string ⟨#[]⟩],.int .i64 42]) (by simp [results,Tryz.results114,go_sem]) rfl ⟨rfl,BLw⟩
 ·rw [if_neg h1]
  have h1' : (x != 0) = false:=by simpa using h1
  clear h1
  by_cases h2 : er = 0
  ·subst h2
   rw [if_neg (by decide)]
   go_enter Tryz.func114,Tryz.ntmps114
   go_wp2_with (go_at_call 25;(with_reducible refine (HM.out _ ?_).mono ?_);exact BLw;rintro e w1 ⟨rfl,hb1⟩;obtain ⟨bC,bM,bN,hz1,B1⟩:=boxes3 hb1;have x0:=bN.cell 0;have x1:=bN.cell 1;have x2:=bN.cell 2;have fx0:=bN.frozen 0;have fx1:=bN.frozen 1;have fx2:=bN.frozen 2;simp at x0 x1 x2;have hn1 : ¬ w1.heap.size = w.heap.size + 1 + 1:=(by omega);have hn2 : ¬ w.heap.size + 1 + 1 = w1.heap.size:=(by omega);have hzx : w.heap.size + 1 + 1 < w1.heap.size:=(by omega))
   refine region_named fun W3 hW3=>?_
   have hB3 : Below w1.heap.size w1 W3:=by rw [hW3];exact (Below.refl _ _).alloc (Nat.le_refl _) _
   have bS : L3.BX W3 w1.heap.size #[.string ⟨#[]⟩,.string n1,.string n2] 44:=by rw [hW3];exact L3.BX.new _ _ _
   have bR:=bN.below hB3 bN.sz
   have HB3:=hid (belows B1 hB3 B1.size)
   have BS3:=hid bS
   have BR3:=hid bR
   have hz3:=bS.sz
   clear x0 x1 x2 fx0 fx1 fx2 hW3 hb1 bC bM
   have s0:=bS.cell 0
   have s1:=bS.cell 1
   have s2:=bS.cell 2
   have x0:=bR.cell 0
   have x1:=bR.cell 1
   have x2:=bR.cell 2
   have fx0:=bR.frozen 0
   have fx1:=bR.frozen 1
   have fx2:=bR.frozen 2
   simp at s0 s1 s2 x0 x1 x2
   clear bS bR bN hB3 B1
   go_region_held3 (fun w'=>w'.cell? ⟨w1.heap.size,0,none⟩ = some (.string ⟨#[]⟩) ∧ w'.cell? ⟨w1.heap.size,1,none⟩ = some (.string n1) ∧ w'.cell? ⟨w1.heap.size,2,none⟩ = some (.string n2))
    (first|exact ⟨s0,s1,s2⟩|go_keep)
    (first|(go_at_call 157;refine (HN.out _).mono ?_;rintro e w2 ⟨rfl,hb2⟩;first|(have h2' : Below W3.heap.size W3 w2:=below_undrew hb2;have bS:=BS3.out.below h2' BS3.out.sz;have bR:=BR3.out.below h2' BR3.out.sz;clear s0 s1 s2 x0 x1 x2 fx0 fx1 fx2;have s0:=bS.cell 0;have s1:=bS.cell 1;have s2:=bS.cell 2;have x0:=bR.cell 0;have x1:=bR.cell 1;have x2:=bR.cell 2;have fx0:=bR.frozen 0;have fx1:=bR.frozen 1;have fx2:=bR.frozen 2;simp at s0 s1 s2 x0 x1 x2;have HB4:=hid (belows HB3.out h2' HB3.out.size);have hz4:=bS.sz;have hz5:=bR.sz)|(have r0:=(hb2.cell (p:=⟨w.heap.size + 1 + 1,0,none⟩) (by simp;omega)).trans (show _ = some (.string ⟨#[]⟩) by simp [x0,x1,x2,go_sem]);have r1:=(hb2.cell (p:=⟨w.heap.size + 1 + 1,1,none⟩) (by simp;omega)).trans (show _ = some (.string n1) by simp [x0,x1,x2,go_sem]);have r2:=(hb2.cell (p:=⟨w.heap.size + 1 + 1,2,none⟩) (by simp;omega)).trans (show _ = some (.string n2) by simp [x0,x1,x2,go_sem]);have z0:=(hb2.cell (p:=⟨w1.heap.size,0,none⟩) (by simp;omega)).trans (show _ = some (.string ⟨#[]⟩) by simp [s0,s1,s2,hn1,hn2,go_sem]);have z1:=(hb2.cell (p:=⟨w1.heap.size,1,none⟩) (by simp;omega)).trans (show _ = some (.string n1) by simp [s0,s1,s2,hn1,hn2,go_sem]);have z2:=(hb2.cell (p:=⟨w1.heap.size,2,none⟩) (by simp;omega)).trans (show _ = some (.string n2) by simp [s0,s1,s2,hn1,hn2,go_sem]);clear s0 s1 s2 x0 x1 x2 fx0 fx1 fx2;have s0:=z0;have s1:=z1;have s2:=z2;have x0:=r0;have x1:=r1;have x2:=r2;have B3:=HB3.out;have HB4:=hid (belows (show Below w.heap.size w _ from BLw) hb2 (by simp;omega)))))
   have B4:=HB4.out
   have hz6:=B4.size
   go_wp2
   exact bodyPost_ret (v:=.tuple #[.agg #[.string ⟨#[]⟩,.string n1,.string n2],.int .i64 me]) (by simp [results,Tryz.results114,go_sem,x0,x1,x2,hn1,hn2,hzx]) rfl ⟨rfl,BLw⟩
  ·rw [if_pos h2]
   have hd : (er != 0) = true:=by simpa using h2
   clear h2
   go_enter Tryz.func114,Tryz.ntmps114
   go_wp2_with (go_at_call 25;(with_reducible refine (HM.out _ ?_).mono ?_);exact BLw;rintro e w1 ⟨rfl,hb1⟩;obtain ⟨bC,bM,bN,hz1,B1⟩:=boxes3 hb1;have x0:=bN.cell 0;have x1:=bN.cell 1;have x2:=bN.cell 2;have fx0:=bN.frozen 0;have fx1:=bN.frozen 1;have fx2:=bN.frozen 2;simp at x0 x1 x2;have hn1 : ¬ w1.heap.size = w.heap.size + 1 + 1:=(by omega);have hn2 : ¬ w.heap.size + 1 + 1 = w1.heap.size:=(by omega);have hzx : w.heap.size + 1 + 1 < w1.heap.size:=(by omega))
   exact bodyPost_ret (v:=.tuple #[.agg #[.string ⟨#[]⟩,.string ⟨#[]⟩,.string ⟨#[]⟩],.int .i64 er]) (by simp [results,Tryz.results114,go_sem,x0,x1,x2,hn1,hn2,hzx]) rfl ⟨rfl,BLw⟩
end Go.Proofs.YtnojgiflgmnjlaaGreatDoor
namespace Go.Proofs.YtnojgiflgmnjlaaGreatDoor
open Go.RowKit
theorem ahead_take (P : List L3.Cp.C) (ms : List Cf.Mb) (k : Nat) (h : k ≤ ms.length) : Cf.ahead P (ms.take k) (ms.take k).length = Cf.ahead P ms k:=by
 unfold Cf.ahead
 rw [List.take_length]
theorem MsC.take {w : World} : ∀ {rs : List (List Value)} {ms : List Cf.Mb} (k : Nat),MsC w rs ms → MsC w (rs.take k) (ms.take k)
 | _,_,0,_=>by simp [MsC]
 | [],[],_ + 1,_=>by simp [MsC]
 | _ :: _,_ :: _,k + 1,h=>⟨h.1,MsC.take k h.2⟩
 | [],_ :: _,_,h=>h.elim
 | _ :: _,[],_,h=>h.elim
theorem flat_take7 : ∀ {rs : List (List Value)} (k : Nat),(∀ r ∈ rs,r.length = 7) → (rs.take k).flatten = rs.flatten.take (k * 7)
 | _,0,_=>by simp
 | [],_ + 1,_=>by simp
 | r :: rs,k + 1,h=>by
  have h1:=h r (by simp)
  rw [List.take_succ_cons,List.flatten_cons,List.flatten_cons,flat_take7 k (fun x hx=>h x (by simp [hx])),show (k + 1) * 7 = r.length + k * 7 by omega,List.take_length_add_append]
theorem MsC.lens {w : World} : ∀ {rs : List (List Value)} {ms : List Cf.Mb},MsC w rs ms → ∀ r ∈ rs,r.length = 7
 | [],_,_,r,hr=>by cases hr
 | x :: rs,m :: ms,h,r,hr=>by
  rcases List.mem_cons.1 hr with rfl|hr
  ·exact h.1.len
  ·exact MsC.lens h.2 r hr
 | _ :: _,[],h,_,_=>h.elim
theorem MsR.take {w : World} {a : Option Addr} {n cap : Nat} {ms : List Cf.Mb} (h : MsR w (.slice a n cap) ms) {k : Nat} (hk : k ≤ ms.length) : MsR w (.slice a k cap) (ms.take k):=by
 obtain ⟨rs,h1,h2⟩:=h
 refine ⟨rs.take k,h1.take k,?_⟩
 have hl : (ms.take k).length = k:=by rw [List.length_take];omega
 rw [hl,flat_take7 k h1.lens]
 refine ⟨by rw [List.length_take,h2.1];omega,by have:=h2.2.1;omega,?_⟩
 rcases h2.2.2 with ⟨h0,a',cap',hv⟩|⟨b,o,cap',hv,hc,hb,hx⟩
 ·obtain ⟨rfl,-,rfl⟩:=Value.slice.inj hv
  exact .inl ⟨by omega,a,cap,by rw [show k = 0 by omega]⟩
 ·obtain ⟨rfl,-,rfl⟩:=Value.slice.inj hv
  by_cases h0 : k = 0
  ·exact .inl ⟨h0,_,cap,by rw [h0]⟩
  ·exact .inr ⟨b,o,cap,rfl,by omega,hb,fun i u hi=>hx i u (by
    rw [List.getElem?_take] at hi
    split at hi
    ·exact hi
    ·cases hi)⟩
set_option maxHeartbeats 4000000 in
theorem rfieldAt_any (c : Cf.Cl) (vs : Array Value) (k : Nat) (m : Cf.Mb) (w : World) (h : ClR w vs c) (hk : c.fs[k]? = some m) :
  Calls Tryz.prog 59 #[.agg vs,.int .i64 (k : Nat)] w fun e w'=>e = .returned (.int .i64 (Cf.fdE c.pool (Cf.ahead c.pool c.fs k) m)) ∧ Below w.heap.size w w':=by
 have hkl : k < c.fs.length:=(List.getElem?_eq_some_iff.1 hk).1
 obtain ⟨pv,fv,mv,hvs,hp,hf,hm9⟩:=h
 have hcl : ClR w vs c:=⟨pv,fv,mv,hvs,hp,hf,hm9⟩
 obtain ⟨b,o,cap',cv,hw,rfl,hbb,hB,hH,hl,c0,c1,c2,c3,c4,c5,c6⟩:=hf.at hk
 obtain ⟨pa,pc,rfl⟩:=hp.len
 obtain ⟨ma,mc,rfl⟩:=hm9.len
 obtain ⟨xa,xc,rfl⟩:=hB.len
 obtain ⟨ya,yc,rfl⟩:=hH.len
 have HK0:=fun W (q : Below w.heap.size w W)=>rnamed_any c vs m (.slice xa m.code.length xc) (.slice ya m.hs.length yc) W (hcl.below q (Nat.le_refl _))
 have hcap : c.fs.length ≤ cap':=by
  obtain ⟨rs,-,h2⟩:=hf
  rcases h2.2.2 with ⟨h0,-⟩|⟨b',o',cap2,hv,hc,-⟩
  ·omega
  ·obtain ⟨-,-,rfl⟩:=Value.slice.inj hv
   exact hc
 have HT0:=fun n W (q : Below w.heap.size w W)=>rtwice_any c vs (c.fs.take k) (.slice (some ⟨b,o,none⟩) k cap') n W (hcl.below q (Nat.le_refl _)) ((hf.take (Nat.le_of_lt hkl)).below q (Nat.le_refl _))
 rw [ahead_take _ _ _ (Nat.le_of_lt hkl)] at HT0
 have hln:=hf.size
 obtain ⟨X,hX⟩ : ∃ X,X = Cf.fdE c.pool (Cf.ahead c.pool c.fs k) m:=⟨_,rfl⟩
 rw [← hX]
 unfold Cf.fdE Cf.plainM at hX
 have hnm:=@nm_mb c.pool m
 obtain ⟨bi,hbi⟩ : ∃ b,b = Cf.inB (Cf.nmO c.pool m).1 (Cf.ahead c.pool c.fs k):=⟨_,rfl⟩
 have HT1:=HT0 (Cf.nmO c.pool m).1
 rw [← hbi] at hX HT1
 obtain ⟨⟨⟨n1,n2⟩,er⟩,hx⟩ : ∃ x,x = Cf.nmO c.pool m:=⟨_,rfl⟩
 rw [← hx] at HK0 hX HT1
 dsimp only at HK0 hX HT1
 have HF0:=fun W=>L2.rfield_any n2 W
 unfold L2.FdPost at HF0
 obtain ⟨⟨⟨tk,tm⟩,fe⟩,hy⟩ : ∃ y,y = L2.fdOut (L2.Ds.bl n2):=⟨_,rfl⟩
 rw [← hy] at HF0 hX
 unfold L2.tyV at HF0
 unfold ndV at HK0 HT1
 obtain ⟨ac,nm,ds,st,lc,co,hs9⟩:=m
 dsimp only at HF0 hX
 unfold mbV at HK0
 dsimp only at HK0 c0 c1 c2 c3 c4 c5 c6
 obtain ⟨cl,hcl9⟩ : ∃ n,n = co.length:=⟨_,rfl⟩
 obtain ⟨hl9,hhl⟩ : ∃ n,n = hs9.length:=⟨_,rfl⟩
 rw [← hcl9] at HK0 hX c5
 rw [← hhl] at HK0 hX c6
 have hin:=init_eq n1
 obtain ⟨nb,hnb⟩ : ∃ b,b = decide (n1 = Cf.initS):=⟨_,rfl⟩
 rw [← hnb] at hin
 have HNB:=hid hnb
 rw [hvs] at HK0 HT1 ⊢
 have HK:=hid HK0
 have HF:=hid HF0
 have HT:=hid HT1
 have HX:=hid hX
 have hki : (k : Int) < (c.fs.length : Int):=by omega
 have hkc : (k : Int) ≤ (cap' : Int):=by omega
 obtain ⟨nfs,hnfs⟩ : ∃ n,n = c.fs.length:=⟨_,rfl⟩
 rw [← hnfs] at HK HT hki hln hkl hcap ⊢
 clear HK0 HF0 hX hx hy hbi hcl9 hhl hnb hk hvs hp hf hm9 hcl hB hH hl HT0 HT1 hnm hnfs
 by_cases h1 : er = 0
 focus
  subst h1
  by_cases h2 : fe = 0
  focus
   subst h2
   have hX2:=HX.out
   rw [if_neg (by decide),if_neg (by decide)] at hX2
   clear HX
   have hN:=HNB.out
   cases nb
   focus
    have hN2:=of_decide_eq_false hN.symm
    clear hN
    by_cases h3 : st = 0
    focus
     subst h3
     by_cases h4 : lc = 0
     focus
      subst h4
      by_cases h5 : cl = 0
      focus
       subst h5
       by_cases h6 : hl9 = 0
       focus
        subst h6
        rw [if_neg (by rintro (h|h);(·exact hN2 h);(·simp at h))] at hX2
        clear hN2
        have HX2:=hid hX2
        clear hX2
        cases bi
        focus
         have h5 : X = 0:=by have:=HX2.out;simpa using this
         subst h5
         clear HX2
         have HL1:=hid True.intro
        rotate_left 1
        focus
         have h5 : X = 5:=by have:=HX2.out;simpa using this
         subst h5
         clear HX2
         have HL2:=hid True.intro
       rotate_left 2
       focus
        rw [if_pos (.inr (by simp [h6]))] at hX2
        subst hX2
        have d1 : ((hl9 : Int) != 0) = true:=by simp;omega
        clear hN2 h6
        have HL3:=hid True.intro
      rotate_left 3
      focus
       rw [if_pos (.inr (by simp [h5]))] at hX2
       subst hX2
       have d1 : ((cl : Int) != 0) = true:=by simp;omega
       clear hN2 h5
       have HL4:=hid True.intro
     rotate_left 4
     focus
      rw [if_pos (.inr (by simp [h4]))] at hX2
      subst hX2
      have d1 : (lc != 0) = true:=by simpa using h4
      clear hN2 h4
      have HL5:=hid True.intro
    rotate_left 5
    focus
     rw [if_pos (.inr (by simp [h3]))] at hX2
     subst hX2
     have d1 : (st != 0) = true:=by simpa using h3
     clear hN2 h3
     have HL6:=hid True.intro
   rotate_left 6
   focus
    rw [if_pos (.inl (of_decide_eq_true hN.symm))] at hX2
    subst hX2
    clear hN
    have HL7:=hid True.intro
  rotate_left 7
  focus
   have hX2:=HX.out
   rw [if_neg (by decide),if_pos h2] at hX2
   subst hX2
   have hd : (X != 0) = true:=by simpa using h2
   clear HX h2
   have HL8:=hid True.intro
 rotate_left 8
 focus
  have hX2:=HX.out
  rw [if_pos h1] at hX2
  subst hX2
  have hd : (X != 0) = true:=by simpa using h1
  clear HX h1
  have HL9:=hid True.intro
 all_goals
  (go_enter Tryz.func59,Tryz.ntmps59;go_wp2_with (first|(go_at_call 114;(with_reducible refine (HK.out _ ?_).mono ?_);exact BLw;rintro e W1 ⟨rfl,hb1⟩;obtain ⟨bC,bM,hzM,B1⟩:=boxes2 hb1;(obtain ⟨q0,q1,q2,q3,q4,q5,q6,q7⟩:=bC.cells8);(obtain ⟨m0,m1,m2,m3,m4,m5,m6⟩:=bM.cells7);have BC1:=hid bC;have BM1:=hid bM;have HB1:=hid B1;have hzw1 : w.heap.size + 1 < W1.heap.size:=(by omega);have hzw0 : w.heap.size < W1.heap.size:=(by omega);clear hb1 bC bM B1)|(go_at_call 115;(with_reducible refine (HF.out _).mono ?_);rintro e W2 ⟨rfl,hb2⟩;obtain ⟨bS,hzS,B2⟩:=belows1 hb2;have bC:=BC1.out.below B2 BC1.out.sz;have bM:=BM1.out.below B2 BM1.out.sz;clear q0 q1 q2 q3 q4 q5 q6 q7 m0 m1 m2 m3 m4 m5 m6;(obtain ⟨q0,q1,q2,q3,q4,q5,q6,q7⟩:=bC.cells8);(obtain ⟨m0,m1,m2,m3,m4,m5,m6⟩:=bM.cells7);have s0:=bS.cell 0;have s1:=bS.cell 1;have s2:=bS.cell 2;simp at s0 s1 s2;have BC2:=hid bC;have BM2:=hid bM;have BS2:=hid bS;have HB2:=hid (belows HB1.out B2 HB1.out.size);have hzw2 : W1.heap.size < W2.heap.size:=(by omega);have hzw3 : w.heap.size + 1 < W2.heap.size:=(by omega);have hzw4 : w.heap.size < W2.heap.size:=(by omega);clear hb2 bC bM bS B2)))
  (first
   | (have _g:=HL1;(obtain ⟨W3,hW3⟩ : ∃ W,W = W2.alloc (.cells #[.int .i64 tk,.string ⟨tm.toArray⟩] 132):=⟨_,rfl⟩;rw [← hW3];have hB3 : Below W2.heap.size W2 W3:=(by rw [hW3];exact (Below.refl _ _).alloc (Nat.le_refl _) _);clear hW3;have B3 : Below w.heap.size w W3:=belows HB2.out hB3 HB2.out.size;have bC:=BC2.out.below hB3 BC2.out.sz;have bS:=BS2.out.below hB3 BS2.out.sz;clear q0 q1 q2 q3 q4 q5 q6 q7 s0 s1 s2;(obtain ⟨q0,q1,q2,q3,q4,q5,q6,q7⟩:=bC.cells8);have s0:=bS.cell 0;have s1:=bS.cell 1;have s2:=bS.cell 2;simp at s0 s1 s2;have HTr:=hid (fun d os=>Calls.regrown_of (d:=d) (os:=os) (w:=W3) (HT.out _ (belows B3 (below_regrown W3 d os) B3.size)));have y0:=fun d os=>cell_regrown q0 d os;have y1:=fun d os=>cell_regrown q1 d os;have y2:=fun d os=>cell_regrown q2 d os;have y3:=fun d os=>cell_regrown q3 d os;have y4:=fun d os=>cell_regrown q4 d os;have y5:=fun d os=>cell_regrown q5 d os;have y6:=fun d os=>cell_regrown q6 d os;have y7:=fun d os=>cell_regrown q7 d os;have z0:=fun d os=>cell_regrown s0 d os;have z1:=fun d os=>cell_regrown s1 d os;have z2:=fun d os=>cell_regrown s2 d os;clear bC bS q0 q1 q2 q3 q4 q5 q6 q7 s0 s1 s2 m0 m1 m2 m3 m4 m5 m6;refine wp_region_quiet_below (by kernel_rfl) (by kernel_rfl) ?_;(repeat (go_big_quiet_step (exact HTr.out _ _)));refine wpQuiet_nil ?_;intro W hw';obtain ⟨⟨dq,osq⟩,hw''⟩:=hw';have hbq:=below_regrown W3 dq osq;rw [← hw''] at hbq;clear hw'' y0 y1 y2 y3 y4 y5 y6 y7 z0 z1 z2;have BW:=belows B3 hbq B3.size;go_wp2_with fail);go_ret;exact ⟨rfl,BW⟩)
   | (have _g:=HL2;(obtain ⟨W3,hW3⟩ : ∃ W,W = W2.alloc (.cells #[.int .i64 tk,.string ⟨tm.toArray⟩] 132):=⟨_,rfl⟩;rw [← hW3];have hB3 : Below W2.heap.size W2 W3:=(by rw [hW3];exact (Below.refl _ _).alloc (Nat.le_refl _) _);clear hW3;have B3 : Below w.heap.size w W3:=belows HB2.out hB3 HB2.out.size;have bC:=BC2.out.below hB3 BC2.out.sz;have bS:=BS2.out.below hB3 BS2.out.sz;clear q0 q1 q2 q3 q4 q5 q6 q7 s0 s1 s2;(obtain ⟨q0,q1,q2,q3,q4,q5,q6,q7⟩:=bC.cells8);have s0:=bS.cell 0;have s1:=bS.cell 1;have s2:=bS.cell 2;simp at s0 s1 s2;have HTr:=hid (fun d os=>Calls.regrown_of (d:=d) (os:=os) (w:=W3) (HT.out _ (belows B3 (below_regrown W3 d os) B3.size)));have y0:=fun d os=>cell_regrown q0 d os;have y1:=fun d os=>cell_regrown q1 d os;have y2:=fun d os=>cell_regrown q2 d os;have y3:=fun d os=>cell_regrown q3 d os;have y4:=fun d os=>cell_regrown q4 d os;have y5:=fun d os=>cell_regrown q5 d os;have y6:=fun d os=>cell_regrown q6 d os;have y7:=fun d os=>cell_regrown q7 d os;have z0:=fun d os=>cell_regrown s0 d os;have z1:=fun d os=>cell_regrown s1 d os;have z2:=fun d os=>cell_regrown s2 d os;clear bC bS q0 q1 q2 q3 q4 q5 q6 q7 s0 s1 s2 m0 m1 m2 m3 m4 m5 m6;refine wp_region_quiet_below (by kernel_rfl) (by kernel_rfl) ?_;(repeat (go_big_quiet_step (exact HTr.out _ _)));refine wpQuiet_nil ?_;intro W hw';obtain ⟨⟨dq,osq⟩,hw''⟩:=hw';have hbq:=below_regrown W3 dq osq;rw [← hw''] at hbq;clear hw'' y0 y1 y2 y3 y4 y5 y6 y7 z0 z1 z2;have BW:=belows B3 hbq B3.size;go_wp2_with fail);go_ret;exact ⟨rfl,BW⟩)
   | (have _g:=HL3;go_ret;exact ⟨rfl,(by first|(have B8:=HB2.out;exact B8.alloc B8.size _)|(have B8:=HB1.out;exact B8.alloc B8.size _))⟩)
   | (have _g:=HL4;go_ret;exact ⟨rfl,(by first|(have B8:=HB2.out;exact B8.alloc B8.size _)|(have B8:=HB1.out;exact B8.alloc B8.size _))⟩)
   | (have _g:=HL5;go_ret;exact ⟨rfl,(by first|(have B8:=HB2.out;exact B8.alloc B8.size _)|(have B8:=HB1.out;exact B8.alloc B8.size _))⟩)
   | (have _g:=HL6;go_ret;exact ⟨rfl,(by first|(have B8:=HB2.out;exact B8.alloc B8.size _)|(have B8:=HB1.out;exact B8.alloc B8.size _))⟩)
   | (have _g:=HL7;go_ret;exact ⟨rfl,(by first|(have B8:=HB2.out;exact B8.alloc B8.size _)|(have B8:=HB1.out;exact B8.alloc B8.size _))⟩)
   | (have _g:=HL8;go_ret;exact ⟨rfl,(by first|(have B8:=HB2.out;exact B8.alloc B8.size _)|(have B8:=HB1.out;exact B8.alloc B8.size _))⟩)
   | (have _g:=HL9;go_ret;exact ⟨rfl,(by first|(have B8:=HB2.out;exact B8.alloc B8.size _)|(have B8:=HB1.out;exact B8.alloc B8.size _))⟩))
end Go.Proofs.YtnojgiflgmnjlaaGreatDoor
namespace Go.Proofs.YtnojgiflgmnjlaaGreatDoor
open Go.RowKit
namespace L2
theorem rd_kind : ∀ {l : List UInt8} {k : Int} {m : List UInt8} {n : Nat},Ds.rd l = some (k,m,n) → k ≠ 0
 | [],_,_,_,h=>by cases h
 | c :: l,k,m,n,h=>by
  unfold Ds.rd at h
  split at h
  ·simp only [Option.some.injEq,Prod.mk.injEq] at h
   omega
  ·split at h
   ·simp only [Option.some.injEq,Prod.mk.injEq] at h
    omega
   ·split at h
    ·cases hr : Ds.rd l with
     | none=>rw [hr] at h;cases h
     | some x =>
      obtain ⟨k',m',n'⟩:=x
      rw [hr] at h
      simp only [Option.some.injEq,Prod.mk.injEq] at h
      omega
    ·split at h
     ·cases hr : Ds.cutC 59 l with
      | none=>rw [hr] at h;cases h
      | some x =>
       obtain ⟨a,b⟩:=x
       rw [hr] at h
       dsimp only at h
       split at h
       ·simp only [Option.some.injEq,Prod.mk.injEq] at h
        omega
       ·cases h
     ·cases h
theorem retF_kind {l : List UInt8} {k : Int} {m s : List UInt8} (h : Ds.retF l = some ((k,m),s)) (hk : k = 0) : m = []:=by
 cases l with
 | nil=>cases h
 | cons c l =>
  simp only [Ds.retF] at h
  split at h
  ·simp only [Option.some.injEq,Prod.mk.injEq] at h
   exact h.1.2.symm
  ·cases hr : Ds.rd (c :: l) with
   | none=>rw [hr] at h;cases h
   | some x =>
    obtain ⟨k',m',n'⟩:=x
    rw [hr] at h
    simp only [Option.some.injEq,Prod.mk.injEq] at h
    obtain ⟨⟨rfl,-⟩,-⟩:=h
    exact absurd hk (rd_kind hr)
theorem mdOut_kind {l : List UInt8} {a : List Ds.Ty} {k : Int} {m : List UInt8} {er : Int} (h : mdOut l = (a,(k,m),er)) (hk : k = 0) : m = []:=by
 unfold mdOut at h
 split at h
 ·simp only [Prod.mk.injEq] at h
  exact h.2.1.2.symm
 ·split at h
  ·rename_i x xs y hm
   simp only [Prod.mk.injEq] at h
   obtain ⟨-,rfl,-⟩:=h
   cases l with
   | nil=>cases hm
   | cons c l =>
    simp only [Ds.md] at hm
    split at hm
    ·unfold Ds.mdA at hm
     split at hm
     ·cases hm
     ·unfold Ds.retM at hm
      split at hm
      ·cases hm
      ·rename_i hr
       simp only [Option.some.injEq,Prod.mk.injEq] at hm
       obtain ⟨-,rfl,-⟩:=hm
       exact retF_kind hr hk
    ·cases hm
  ·simp only [Prod.mk.injEq] at h
   exact h.2.1.2.symm
end L2
set_option maxHeartbeats 8000000 in
theorem rmethodAt_any (c : Cf.Cl) (vs : Array Value) (k : Nat) (m : Cf.Mb) (w : World) (h : ClR w vs c) (hk : c.ms[k]? = some m) :
  Calls Tryz.prog 60 #[.agg vs,.int .i64 (k : Nat)] w fun e w'=>∃ er,Cf.meIs c.pool (Cf.ahead c.pool c.ms k) m er ∧ e = .returned (.int .i64 er) ∧ Below w.heap.size w w':=by
 have hkl : k < c.ms.length:=(List.getElem?_eq_some_iff.1 hk).1
 obtain ⟨pv,fv,mv,hvs,hp,hf,hm9⟩:=h
 have hcl : ClR w vs c:=⟨pv,fv,mv,hvs,hp,hf,hm9⟩
 obtain ⟨b,o,cap',cv,hw,rfl,hbb,hB,hH,hl,c0,c1,c2,c3,c4,c5,c6⟩:=hm9.at hk
 obtain ⟨pa,pc,rfl⟩:=hp.len
 obtain ⟨fa,fc,rfl⟩:=hf.len
 have HCo0:=fun W (q : Below w.heap.size w W)=>rcode_any c vs m cv hw W (hcl.below q (Nat.le_refl _)) ((hB.below q (Nat.le_refl _)).mono q.size) (hH.below q (Nat.le_refl _)) hl
 obtain ⟨xa,xc,rfl⟩:=hB.len
 obtain ⟨ya,yc,rfl⟩:=hH.len
 have HK0:=fun W (q : Below w.heap.size w W)=>rnamed_any c vs m (.slice xa m.code.length xc) (.slice ya m.hs.length yc) W (hcl.below q (Nat.le_refl _))
 have hcap : c.ms.length ≤ cap':=by
  obtain ⟨rs,-,h2⟩:=hm9
  rcases h2.2.2 with ⟨h0,-⟩|⟨b',o',cap2,hv,hc,-⟩
  ·omega
  ·obtain ⟨-,-,rfl⟩:=Value.slice.inj hv
   exact hc
 have HT0:=fun n W (q : Below w.heap.size w W)=>rtwice_any c vs (c.ms.take k) (.slice (some ⟨b,o,none⟩) k cap') n W (hcl.below q (Nat.le_refl _)) ((hm9.take (Nat.le_of_lt hkl)).below q (Nat.le_refl _))
 rw [ahead_take _ _ _ (Nat.le_of_lt hkl)] at HT0
 have hln:=hm9.size
 have hr : ∀ er,Cf.meIs c.pool (Cf.ahead c.pool c.ms k) m er → Cf.meIs c.pool (Cf.ahead c.pool c.ms k) m er:=fun er h=>h
 obtain ⟨R,hR⟩ : ∃ R,R = Cf.meIs c.pool (Cf.ahead c.pool c.ms k) m:=⟨_,rfl⟩
 rw [← hR] at hr ⊢
 conv at hr=>enter [er,1];rw [hR];unfold Cf.meIs
 obtain ⟨bi,hbi⟩ : ∃ b,b = Cf.inB (Cf.nmO c.pool m).1 (Cf.ahead c.pool c.ms k):=⟨_,rfl⟩
 have HT1:=HT0 (Cf.nmO c.pool m).1
 rw [← hbi] at hr HT1
 obtain ⟨⟨⟨n1,n2⟩,er⟩,hx⟩ : ∃ x,x = Cf.nmO c.pool m:=⟨_,rfl⟩
 rw [← hx] at HK0 hr HT1
 dsimp only at HK0 hr HT1
 have HF0:=fun W=>L2.rmethod_any n2 W
 unfold L2.RmP L2.OwnT at HF0
 obtain ⟨⟨xs,⟨rk,rm⟩,fe⟩,hy⟩ : ∃ y,y = L2.mdOut (L2.Ds.bl n2):=⟨_,rfl⟩
 have hrk:=L2.mdOut_kind hy.symm
 have HXL:=hid (L2.mdOut_len hy.symm)
 rw [← hy] at HF0 hr
 dsimp only at HF0 hr
 unfold ndV at HK0 HT1
 have HS:=hid (fun W a9 c9 (h : Kit.IsS 2 W (.slice a9 xs.length c9) xs.length (xs.flatMap L2.tyC))=>L2.rslots_any xs _ W h)
 obtain ⟨s,hs⟩ : ∃ s,s = L2.slotsOf xs:=⟨_,rfl⟩
 have hsl : 0 ≤ L2.slotsOf xs ∧ L2.slotsOf xs ≤ 281474976710656:=by
  have h1:=L2.longs_le xs
  have h2:=HXL.out
  unfold L2.slotsOf
  omega
 unfold Cf.frE at hr
 rw [← hs] at HS hsl hr
 obtain ⟨sb,hsb⟩ : ∃ sb,sb = Cf.statB m:=⟨_,rfl⟩
 rw [← hsb] at hr
 unfold Cf.statB at hsb
 have hco : ∀ er,Cf.CoIs c.pool m er → Cf.CoIs c.pool m er:=fun er h=>h
 obtain ⟨CO,hCO⟩ : ∃ CO,CO = Cf.CoIs c.pool m:=⟨_,rfl⟩
 rw [← hCO] at hr HCo0
 obtain ⟨ac,nm,ds,st,lc,co,hs9⟩:=m
 unfold mbV at HK0 HCo0
 dsimp only at HK0 HCo0 hr hsb c0 c1 c2 c3 c4 c5 c6
 have hw : IntKind.i64.wrap (s + 1) = s + 1:=IntWalk.i64_in _ (by omega)
 have hin:=init_eq n1
 obtain ⟨nb,hnb⟩ : ∃ b,b = decide (n1 = Cf.initS):=⟨_,rfl⟩
 rw [← hnb] at hin
 have HNB:=hid hnb
 rw [hvs] at HK0 HT1 HCo0 ⊢
 have HK:=hid HK0
 have HF:=hid HF0
 have HT:=hid HT1
 have HR:=hid hr
 have HCo:=hid HCo0
 have HRk:=hid hrk
 have HSB:=hid hsb.symm
 have HIN:=hid hin
 clear hsb hin
 have hki : (k : Int) < (c.ms.length : Int):=by omega
 have hkc : (k : Int) ≤ (cap' : Int):=by omega
 obtain ⟨nfs,hnfs⟩ : ∃ n,n = c.ms.length:=⟨_,rfl⟩
 rw [← hnfs] at HK HT HCo hki hln hkl hcap ⊢
 obtain ⟨xl,hxl⟩ : ∃ n,n = xs.length:=⟨_,rfl⟩
 clear HK0 HF0 hr hx hy hbi hnb hk hvs hp hf hm9 hcl hB hH hl HT0 HT1 HCo0 hnfs hrk hs hCO hR hco hxl
 by_cases h1 : er = 0
 focus
  subst h1
  by_cases h2 : fe = 0
  focus
   subst h2
   cases bi
   focus
    cases nb
    focus
     have HNO : Hid (¬ (n1 = Cf.initS ∧ (sb = true ∨ rk ≠ 0))):=by
      show ¬ _
      rintro ⟨h,-⟩
      have hn:=of_decide_eq_false HNB.out.symm
      exact hn h
     cases sb
     focus
      have HR2:=hid (fun er h=>HR.out er (by rw [if_neg (by decide),if_neg (by decide),if_neg (by decide),if_neg HNO.out];exact h))
      clear HR HNO
      by_cases b1 : st < 0
      focus
       have HX:=hid (HR2.out 3 (by rw [if_pos (Or.inl b1),if_pos (by decide)]))
       clear HR2
       have d1 : decide (st < 0) = true:=by simpa using b1
       have HL3:=hid True.intro
      rotate_left 1
      focus
       have d1 : decide (st < 0) = false:=by simpa using b1
       by_cases b2 : 64 < st
       focus
        have HX:=hid (HR2.out 3 (by rw [if_pos (Or.inr (Or.inl b2)),if_pos (by decide)]))
        clear HR2
        have d2 : decide (64 < st) = true:=by simpa using b2
        have HL3:=hid True.intro
       rotate_left 1
       focus
        have d2 : decide (64 < st) = false:=by simpa using b2
        by_cases b3 : lc < 0
        focus
         have HX:=hid (HR2.out 3 (by rw [if_pos (Or.inr (Or.inr (Or.inl b3))),if_pos (by decide)]))
         clear HR2
         have d3 : decide (lc < 0) = true:=by simpa using b3
         have HL3:=hid True.intro
        rotate_left 1
        focus
         have d3 : decide (lc < 0) = false:=by simpa using b3
         by_cases b4 : 64 < lc
         focus
          have HX:=hid (HR2.out 3 (by rw [if_pos (Or.inr (Or.inr (Or.inr b4))),if_pos (by decide)]))
          clear HR2
          have d4 : decide (64 < lc) = true:=by simpa using b4
          have HL3:=hid True.intro
         rotate_left 1
         focus
          have d4 : decide (64 < lc) = false:=by simpa using b4
          have hnb9 : ¬ (st < 0 ∨ 64 < st ∨ lc < 0 ∨ 64 < lc):=by omega
          by_cases b5 : lc < s + 1
          focus
           have hb5 : lc < s + (if false = true then 0 else 1):=by simpa using b5
           have HX:=hid (HR2.out 45 (by rw [if_neg hnb9,if_pos hb5,if_pos (by decide)]))
           clear hb5
           clear HR2 hnb9
           have d5 : decide (lc < s + 1) = true:=by simpa using b5
           have HL45:=hid True.intro
          rotate_left 1
          focus
           have hb5 : ¬ lc < s + (if false = true then 0 else 1):=by simpa using b5
           have HX:=hid (fun er h=>HR2.out er (by rw [if_neg hnb9,if_neg hb5,if_neg (by decide)];exact h))
           clear HR2 hnb9 hb5
           have d5 : decide (lc < s + 1) = false:=by simpa using b5
           have HLe:=hid True.intro
     rotate_left 6
     focus
      have HR2:=hid (fun er h=>HR.out er (by rw [if_neg (by decide),if_neg (by decide),if_neg (by decide),if_neg HNO.out];exact h))
      clear HR HNO
      by_cases b1 : st < 0
      focus
       have HX:=hid (HR2.out 3 (by rw [if_pos (Or.inl b1),if_pos (by decide)]))
       clear HR2
       have d1 : decide (st < 0) = true:=by simpa using b1
       have HL3:=hid True.intro
      rotate_left 1
      focus
       have d1 : decide (st < 0) = false:=by simpa using b1
       by_cases b2 : 64 < st
       focus
        have HX:=hid (HR2.out 3 (by rw [if_pos (Or.inr (Or.inl b2)),if_pos (by decide)]))
        clear HR2
        have d2 : decide (64 < st) = true:=by simpa using b2
        have HL3:=hid True.intro
       rotate_left 1
       focus
        have d2 : decide (64 < st) = false:=by simpa using b2
        by_cases b3 : lc < 0
        focus
         have HX:=hid (HR2.out 3 (by rw [if_pos (Or.inr (Or.inr (Or.inl b3))),if_pos (by decide)]))
         clear HR2
         have d3 : decide (lc < 0) = true:=by simpa using b3
         have HL3:=hid True.intro
        rotate_left 1
        focus
         have d3 : decide (lc < 0) = false:=by simpa using b3
         by_cases b4 : 64 < lc
         focus
          have HX:=hid (HR2.out 3 (by rw [if_pos (Or.inr (Or.inr (Or.inr b4))),if_pos (by decide)]))
          clear HR2
          have d4 : decide (64 < lc) = true:=by simpa using b4
          have HL3:=hid True.intro
         rotate_left 1
         focus
          have d4 : decide (64 < lc) = false:=by simpa using b4
          have hnb9 : ¬ (st < 0 ∨ 64 < st ∨ lc < 0 ∨ 64 < lc):=by omega
          by_cases b5 : lc < s
          focus
           have hb5 : lc < s + (if true = true then 0 else 1):=by simpa using b5
           have HX:=hid (HR2.out 45 (by rw [if_neg hnb9,if_pos hb5,if_pos (by decide)]))
           clear hb5
           clear HR2 hnb9
           have d5 : decide (lc < s) = true:=by simpa using b5
           have HL45:=hid True.intro
          rotate_left 1
          focus
           have hb5 : ¬ lc < s + (if true = true then 0 else 1):=by simpa using b5
           have HX:=hid (fun er h=>HR2.out er (by rw [if_neg hnb9,if_neg hb5,if_neg (by decide)];exact h))
           clear HR2 hnb9 hb5
           have d5 : decide (lc < s) = false:=by simpa using b5
           have HLe:=hid True.intro
    rotate_left 12
    focus
     cases sb
     focus
      by_cases h5 : rk = 0
      focus
       have hrm:=HRk.out h5
       subst h5 hrm
       have HZZ:=hid True.intro
       have HNO : Hid (¬ (n1 = Cf.initS ∧ (false = true ∨ (0 : Int) ≠ 0))):=by
        show ¬ _
        rintro ⟨-,h|h⟩
        ·cases h
        ·exact h rfl
       have HR2:=hid (fun er h=>HR.out er (by rw [if_neg (by decide),if_neg (by decide),if_neg (by decide),if_neg HNO.out];exact h))
       clear HR HNO
       by_cases b1 : st < 0
       focus
        have HX:=hid (HR2.out 3 (by rw [if_pos (Or.inl b1),if_pos (by decide)]))
        clear HR2
        have d1 : decide (st < 0) = true:=by simpa using b1
        have HL3:=hid True.intro
       rotate_left 1
       focus
        have d1 : decide (st < 0) = false:=by simpa using b1
        by_cases b2 : 64 < st
        focus
         have HX:=hid (HR2.out 3 (by rw [if_pos (Or.inr (Or.inl b2)),if_pos (by decide)]))
         clear HR2
         have d2 : decide (64 < st) = true:=by simpa using b2
         have HL3:=hid True.intro
        rotate_left 1
        focus
         have d2 : decide (64 < st) = false:=by simpa using b2
         by_cases b3 : lc < 0
         focus
          have HX:=hid (HR2.out 3 (by rw [if_pos (Or.inr (Or.inr (Or.inl b3))),if_pos (by decide)]))
          clear HR2
          have d3 : decide (lc < 0) = true:=by simpa using b3
          have HL3:=hid True.intro
         rotate_left 1
         focus
          have d3 : decide (lc < 0) = false:=by simpa using b3
          by_cases b4 : 64 < lc
          focus
           have HX:=hid (HR2.out 3 (by rw [if_pos (Or.inr (Or.inr (Or.inr b4))),if_pos (by decide)]))
           clear HR2
           have d4 : decide (64 < lc) = true:=by simpa using b4
           have HL3:=hid True.intro
          rotate_left 1
          focus
           have d4 : decide (64 < lc) = false:=by simpa using b4
           have hnb9 : ¬ (st < 0 ∨ 64 < st ∨ lc < 0 ∨ 64 < lc):=by omega
           by_cases b5 : lc < s + 1
           focus
            have hb5 : lc < s + (if false = true then 0 else 1):=by simpa using b5
            have HX:=hid (HR2.out 45 (by rw [if_neg hnb9,if_pos hb5,if_pos (by decide)]))
            clear hb5
            clear HR2 hnb9
            have d5 : decide (lc < s + 1) = true:=by simpa using b5
            have HL45:=hid True.intro
           rotate_left 1
           focus
            have hb5 : ¬ lc < s + (if false = true then 0 else 1):=by simpa using b5
            have HX:=hid (fun er h=>HR2.out er (by rw [if_neg hnb9,if_neg hb5,if_neg (by decide)];exact h))
            clear HR2 hnb9 hb5
            have d5 : decide (lc < s + 1) = false:=by simpa using b5
            have HLe:=hid True.intro
      rotate_left 6
      focus
       have hd3 : (rk == 0) = false:=by simpa using h5
       have HX:=hid (HR.out 45 (by have hn:=of_decide_eq_true HNB.out.symm;rw [if_neg (by decide),if_neg (by decide),if_neg (by decide),if_pos ⟨hn,.inr h5⟩]))
       clear HR h5
       have HL45i:=hid True.intro
     rotate_left 7
     focus
      have HX:=hid (HR.out 45 (by have hn:=of_decide_eq_true HNB.out.symm;simp [hn]))
      clear HR
      have HL45i:=hid True.intro
   rotate_left 20
   focus
    have HX:=hid (HR.out 5 (by simp))
    clear HR
    have HL5:=hid True.intro
  rotate_left 21
  focus
   have hd : (fe != 0) = true:=by simpa using h2
   have H2:=hid h2
   clear h2
   have HLf:=hid True.intro
 rotate_left 22
 focus
  have hd : (er != 0) = true:=by simpa using h1
  have H1:=hid h1
  clear h1
  have HLr:=hid True.intro
 all_goals
  (go_enter Tryz.func60,Tryz.ntmps60;go_wp2_with (first|(go_at_call 114;(with_reducible refine (HK.out _ ?_).mono ?_);exact BLw;rintro e W1 ⟨rfl,hb1⟩;obtain ⟨bC,bM,hzM,B1⟩:=boxes2 hb1;(obtain ⟨q0,q1,q2,q3,q4,q5,q6,q7⟩:=bC.cells8);(obtain ⟨m0,m1,m2,m3,m4,m5,m6⟩:=bM.cells7);have BC1:=hid bC;have BM1:=hid bM;have HB1:=hid B1;have hzw1 : w.heap.size + 1 < W1.heap.size:=(by omega);have hzw0 : w.heap.size < W1.heap.size:=(by omega);clear hb1 bC bM B1)|(go_at_call 117;(with_reducible refine (HF.out _).mono ?_);rintro e W2 ⟨av,rfl,hoT,hb2⟩;obtain ⟨aa,ac2,rfl⟩:=L3.own_form hoT;obtain ⟨bS,hzS,B2⟩:=belows1 hb2;have bC:=BC1.out.below B2 BC1.out.sz;have bM:=BM1.out.below B2 BM1.out.sz;clear q0 q1 q2 q3 q4 q5 q6 q7 m0 m1 m2 m3 m4 m5 m6;(obtain ⟨q0,q1,q2,q3,q4,q5,q6,q7⟩:=bC.cells8);(obtain ⟨m0,m1,m2,m3,m4,m5,m6⟩:=bM.cells7);have s0:=bS.cell 0;have s1:=bS.cell 1;have s2:=bS.cell 2;simp at s0 s1 s2;have IT:=hid (Kit.isS_of_owns hoT HXL.out);have BC2:=hid bC;have BM2:=hid bM;have BS2:=hid bS;have HB2:=hid (belows HB1.out B2 HB1.out.size);have hzw2 : W1.heap.size < W2.heap.size:=(by omega);have hzw3 : w.heap.size + 1 < W2.heap.size:=(by omega);have hzw4 : w.heap.size < W2.heap.size:=(by omega);clear hb2 bC bM bS B2 hoT)))
  (first
   | (have _g:=HLr;go_ret;exact ⟨er,HR.out er (by have h1:=H1.out;simp [h1]),rfl,(by first|(have B8:=HB2.out;exact B8.alloc B8.size _)|(have B8:=HB1.out;exact B8.alloc B8.size _))⟩)
   | (have _g:=HLf;go_ret;exact ⟨fe,HR.out fe (by have h2:=H2.out;simp [h2]),rfl,(by have B8:=HB2.out;exact BLw)⟩)
   | ((first|((have _g:=HZZ);(refine region_named fun W3 hW3=>?_;have hB3 : Below W2.heap.size W2 W3:=(by rw [hW3];exact (Below.refl _ _).alloc (Nat.le_refl _) _);have t0 : W3.cell? ⟨W2.heap.size,0,none⟩ = some (.int .i64 0):=(by rw [hW3,(L3.BX.new _ _ _).cell];rfl);have t1 : W3.cell? ⟨W2.heap.size,1,none⟩ = some (.string ⟨#[]⟩):=(by rw [hW3,(L3.BX.new _ _ _).cell];rfl);have hz3 : W2.heap.size < W3.heap.size:=(by rw [hW3];simp);clear hW3;have B3 : Below w.heap.size w W3:=belows HB2.out hB3 HB2.out.size;have bC:=BC2.out.below hB3 BC2.out.sz;have bM:=BM2.out.below hB3 BM2.out.sz;have bS:=BS2.out.below hB3 BS2.out.sz;clear q0 q1 q2 q3 q4 q5 q6 q7 s0 s1 s2;(obtain ⟨q0,q1,q2,q3,q4,q5,q6,q7⟩:=bC.cells8);have s0:=bS.cell 0;have s1:=bS.cell 1;have s2:=bS.cell 2;simp at s0 s1 s2;have HTr:=hid (fun d os=>Calls.regrown_of (d:=d) (os:=os) (w:=W3) (HT.out _ (belows B3 (below_regrown W3 d os) B3.size)));have y0:=fun d os=>cell_regrown q0 d os;have y1:=fun d os=>cell_regrown q1 d os;have y2:=fun d os=>cell_regrown q2 d os;have y3:=fun d os=>cell_regrown q3 d os;have y4:=fun d os=>cell_regrown q4 d os;have y5:=fun d os=>cell_regrown q5 d os;have y6:=fun d os=>cell_regrown q6 d os;have y7:=fun d os=>cell_regrown q7 d os;have z0:=fun d os=>cell_regrown s0 d os;have z1:=fun d os=>cell_regrown s1 d os;have z2:=fun d os=>cell_regrown s2 d os;have BC3:=hid bC;have BM3:=hid bM;have BS3:=hid bS;have IT3:=hid (IT.out.below hB3 (Nat.le_refl _));have HB3:=hid B3;clear bC bM bS q0 q1 q2 q3 q4 q5 q6 q7 s0 s1 s2 m0 m1 m2 m3 m4 m5 m6;refine wp_region_quiet_below (by kernel_rfl) (by kernel_rfl) ?_;(repeat (go_big_quiet_step (exact HTr.out _ _)));refine wpQuiet_nil ?_;intro W4 hw';obtain ⟨⟨dq,osq⟩,hw''⟩:=hw';have hbq:=below_regrown W3 dq osq;rw [← hw''] at hbq;clear hw'' y0 y1 y2 y3 y4 y5 y6 y7 z0 z1 z2;have bC:=BC3.out.below hbq BC3.out.sz;have bM:=BM3.out.below hbq BM3.out.sz;have bS:=BS3.out.below hbq BS3.out.sz;(obtain ⟨q0,q1,q2,q3,q4,q5,q6,q7⟩:=bC.cells8);(obtain ⟨m0,m1,m2,m3,m4,m5,m6⟩:=bM.cells7);have s0:=bS.cell 0;have s1:=bS.cell 1;have s2:=bS.cell 2;simp at s0 s1 s2;have t0:=(hbq.cell (p:=⟨W2.heap.size,0,none⟩) (by simpa using hz3)).trans t0;have t1:=(hbq.cell (p:=⟨W2.heap.size,1,none⟩) (by simpa using hz3)).trans t1;have BC4:=hid bC;have BM4:=hid bM;have IT4:=hid (IT3.out.below hbq (Nat.le_refl _));have HB4:=hid (belows HB3.out hbq HB3.out.size);clear bC bM bS hbq B3 hB3;have hsb:=HSB.out;have hin:=HIN.out;go_wp2_with (first|(go_at_call 118;(with_reducible refine (HS.out _ _ _ ?_).mono ?_);exact IT4.out;rintro e W5 ⟨rfl,hb5⟩;have bC:=BC4.out.below hb5 BC4.out.sz;have bM:=BM4.out.below hb5 BM4.out.sz;clear q0 q1 q2 q3 q4 q5 q6 q7 m0 m1 m2 m3 m4 m5 m6;(obtain ⟨q0,q1,q2,q3,q4,q5,q6,q7⟩:=bC.cells8);(obtain ⟨m0,m1,m2,m3,m4,m5,m6⟩:=bM.cells7);have HB5:=hid (belows HB4.out hb5 HB4.out.size);clear hb5 bC bM)|(go_at_call 119;(with_reducible refine (HCo.out _ ?_).mono ?_);exact HB5.out;rintro e W6 ⟨er,hco,rfl,hb6⟩;have HCO:=hid hco;have HB6:=hid (belows HB5.out hb6 HB5.out.size);clear hb6 hco))))|((fail_if_success (have _g:=HZZ));(refine region_named fun W3 hW3=>?_;have hB3 : Below W2.heap.size W2 W3:=(by rw [hW3];exact (Below.refl _ _).alloc (Nat.le_refl _) _);have t0 : W3.cell? ⟨W2.heap.size,0,none⟩ = some (.int .i64 rk):=(by rw [hW3,(L3.BX.new _ _ _).cell];rfl);have t1 : W3.cell? ⟨W2.heap.size,1,none⟩ = some (.string ⟨rm.toArray⟩):=(by rw [hW3,(L3.BX.new _ _ _).cell];rfl);have hz3 : W2.heap.size < W3.heap.size:=(by rw [hW3];simp);clear hW3;have B3 : Below w.heap.size w W3:=belows HB2.out hB3 HB2.out.size;have bC:=BC2.out.below hB3 BC2.out.sz;have bM:=BM2.out.below hB3 BM2.out.sz;have bS:=BS2.out.below hB3 BS2.out.sz;clear q0 q1 q2 q3 q4 q5 q6 q7 s0 s1 s2;(obtain ⟨q0,q1,q2,q3,q4,q5,q6,q7⟩:=bC.cells8);have s0:=bS.cell 0;have s1:=bS.cell 1;have s2:=bS.cell 2;simp at s0 s1 s2;have HTr:=hid (fun d os=>Calls.regrown_of (d:=d) (os:=os) (w:=W3) (HT.out _ (belows B3 (below_regrown W3 d os) B3.size)));have y0:=fun d os=>cell_regrown q0 d os;have y1:=fun d os=>cell_regrown q1 d os;have y2:=fun d os=>cell_regrown q2 d os;have y3:=fun d os=>cell_regrown q3 d os;have y4:=fun d os=>cell_regrown q4 d os;have y5:=fun d os=>cell_regrown q5 d os;have y6:=fun d os=>cell_regrown q6 d os;have y7:=fun d os=>cell_regrown q7 d os;have z0:=fun d os=>cell_regrown s0 d os;have z1:=fun d os=>cell_regrown s1 d os;have z2:=fun d os=>cell_regrown s2 d os;have BC3:=hid bC;have BM3:=hid bM;have BS3:=hid bS;have IT3:=hid (IT.out.below hB3 (Nat.le_refl _));have HB3:=hid B3;clear bC bM bS q0 q1 q2 q3 q4 q5 q6 q7 s0 s1 s2 m0 m1 m2 m3 m4 m5 m6;refine wp_region_quiet_below (by kernel_rfl) (by kernel_rfl) ?_;(repeat (go_big_quiet_step (exact HTr.out _ _)));refine wpQuiet_nil ?_;intro W4 hw';obtain ⟨⟨dq,osq⟩,hw''⟩:=hw';have hbq:=below_regrown W3 dq osq;rw [← hw''] at hbq;clear hw'' y0 y1 y2 y3 y4 y5 y6 y7 z0 z1 z2;have bC:=BC3.out.below hbq BC3.out.sz;have bM:=BM3.out.below hbq BM3.out.sz;have bS:=BS3.out.below hbq BS3.out.sz;(obtain ⟨q0,q1,q2,q3,q4,q5,q6,q7⟩:=bC.cells8);(obtain ⟨m0,m1,m2,m3,m4,m5,m6⟩:=bM.cells7);have s0:=bS.cell 0;have s1:=bS.cell 1;have s2:=bS.cell 2;simp at s0 s1 s2;have t0:=(hbq.cell (p:=⟨W2.heap.size,0,none⟩) (by simpa using hz3)).trans t0;have t1:=(hbq.cell (p:=⟨W2.heap.size,1,none⟩) (by simpa using hz3)).trans t1;have BC4:=hid bC;have BM4:=hid bM;have IT4:=hid (IT3.out.below hbq (Nat.le_refl _));have HB4:=hid (belows HB3.out hbq HB3.out.size);clear bC bM bS hbq B3 hB3;have hsb:=HSB.out;have hin:=HIN.out;go_wp2_with (first|(go_at_call 118;(with_reducible refine (HS.out _ _ _ ?_).mono ?_);exact IT4.out;rintro e W5 ⟨rfl,hb5⟩;have bC:=BC4.out.below hb5 BC4.out.sz;have bM:=BM4.out.below hb5 BM4.out.sz;clear q0 q1 q2 q3 q4 q5 q6 q7 m0 m1 m2 m3 m4 m5 m6;(obtain ⟨q0,q1,q2,q3,q4,q5,q6,q7⟩:=bC.cells8);(obtain ⟨m0,m1,m2,m3,m4,m5,m6⟩:=bM.cells7);have HB5:=hid (belows HB4.out hb5 HB4.out.size);clear hb5 bC bM)|(go_at_call 119;(with_reducible refine (HCo.out _ ?_).mono ?_);exact HB5.out;rintro e W6 ⟨er,hco,rfl,hb6⟩;have HCO:=hid hco;have HB6:=hid (belows HB5.out hb6 HB5.out.size);clear hb6 hco)))));go_ret;first|(have _g:=HL3;exact ⟨3,HX.out,rfl,HB4.out⟩)|(have _g:=HL5;exact ⟨5,HX.out,rfl,HB4.out⟩)|(have _g:=HL45i;exact ⟨45,HX.out,rfl,HB4.out⟩)|(have _g:=HL45;exact ⟨45,HX.out,rfl,HB5.out⟩)|(have _g:=HLe;exact ⟨er,HX.out er HCO.out,rfl,HB6.out⟩)))
end Go.Proofs.YtnojgiflgmnjlaaGreatDoor
