/- Own texts for the claim, part 21. -/
import Derived.Test.YtnojgiflgmnjlaaGreatDoorZO20
set_option maxRecDepth 100000
namespace Go.Proofs.YtnojgiflgmnjlaaGreatDoor
open Go.RowKit
namespace Cf
theorem cl0 {c : Cl} {er : Int} (h : HdIs c er) (hz : er ≠ 0) : ClIs c er:=FstR.at (k:=0) (fun j hj=>by omega) (by decide) h hz
theorem cl1 {c : Cl} {er : Int} (h0 : HdIs c 0) (h : FstR (FdIs c.pool c.fs) c.fs.length er) (hz : er ≠ 0) : ClIs c er:=FstR.at (k:=1) (fun j hj=>by
 obtain rfl : j = 0:=by omega
 exact h0) (by decide) h hz
theorem cl2 {c : Cl} {er : Int} (h0 : HdIs c 0) (h1 : FstR (FdIs c.pool c.fs) c.fs.length 0) (h : FstR (MeIs c.pool c.ms) c.ms.length er) (hz : er ≠ 0) : ClIs c er:=FstR.at (k:=2) (fun j hj=>by
 match j,hj with
 | 0,_=>exact h0
 | 1,_=>exact h1) (by decide) h hz
theorem cl3 {c : Cl} {er : Int} (h0 : HdIs c 0) (h1 : FstR (FdIs c.pool c.fs) c.fs.length 0) (h2 : FstR (MeIs c.pool c.ms) c.ms.length 0) (h : CnIs c er) : ClIs c er:=by
 by_cases hz : er = 0
 ·subst hz
  exact FstR.all fun j hj=>by
   match j,hj with
   | 0,_=>exact h0
   | 1,_=>exact h1
   | 2,_=>exact h2
   | 3,_=>exact h
 ·exact FstR.at (k:=3) (fun j hj=>by
   match j,hj with
   | 0,_=>exact h0
   | 1,_=>exact h1
   | 2,_=>exact h2) (by decide) h hz
end Cf
set_option maxHeartbeats 4000000 in
theorem rcheck04_any (c : Cf.Cl) (vs : Array Value) (w : World) (h : ClR w vs c) (hs : ∀ x ∈ c.pool,x.s.size ≤ 140737488355328 ∧ L3.I6 x.n) :
  Calls Tryz.prog 18 #[.agg vs] w fun e w'=>∃ er,Cf.ClIs c er ∧ e = .returned (.int .i64 er) ∧ Below w.heap.size w w':=by
 have HV0:=fun W=>rversion_any c.mi c.ma W
 have HT0:=fun W (q : Below w.heap.size w W)=>rclass_any c c.th vs W (h.below q (Nat.le_refl _))
 have HU0:=fun W (q : Below w.heap.size w W)=>rclass_any c c.su vs W (h.below q (Nat.le_refl _))
 have HFd:=hid (fun (k : Nat) m (hk : c.fs[k]? = some m) W (q : Below w.heap.size w W)=>(rfieldAt_any c vs k m W (h.below q (Nat.le_refl _)) hk).mono (R':=fun e w'=>∃ er,Cf.FdIs c.pool c.fs k er ∧ e = .returned (.int .i64 er) ∧ Below W.heap.size W w') fun e w' ⟨he,hb⟩=>⟨_,⟨m,hk,rfl⟩,he,hb⟩)
 have HMe:=hid (fun (k : Nat) m (hk : c.ms[k]? = some m) W (q : Below w.heap.size w W)=>(rmethodAt_any c vs k m W (h.below q (Nat.le_refl _)) hk).mono (R':=fun e w'=>∃ er,Cf.MeIs c.pool c.ms k er ∧ e = .returned (.int .i64 er) ∧ Below W.heap.size W w') fun e w' ⟨er,h1,he,hb⟩=>⟨er,⟨m,hk,h1⟩,he,hb⟩)
 obtain ⟨pv,fv,mv,rfl,hp,hf,hm⟩:=h
 have HP:=hid (fun W (q : Below w.heap.size w W)=>L3.rcheck_any c.pool pv W (hp.below q (Nat.le_refl _)) hs)
 have HCo:=hid (fun W (q : Below w.heap.size w W)=>rcodes_any c.pool pv W (hp.below q (Nat.le_refl _)))
 have hfl:=hf.size
 have hml:=hm.size
 obtain ⟨pa,pc,rfl⟩:=hp.len
 obtain ⟨fa,fc,rfl⟩:=hf.len
 obtain ⟨ma,mc,rfl⟩:=hm.len
 have HH0:=fun er pk (h1 : L3.CkIs c.pool pk) h2 (hv : ¬ Cf.verB c.mi c.ma = false)=>(show Cf.HdIs c er from by
  unfold Cf.HdIs
  rw [if_neg hv]
  exact ⟨pk,h1,h2⟩)
 have HH1:=fun er (hv : Cf.verB c.mi c.ma = false) (h : er = 41)=>(show Cf.HdIs c er from by
  unfold Cf.HdIs
  rw [if_pos hv,h])
 have CL0:=hid (fun er=>@Cf.cl0 c er)
 have CL1:=hid (fun er=>@Cf.cl1 c er)
 have CL2:=hid (fun er=>@Cf.cl2 c er)
 have CL3:=hid (fun er=>@Cf.cl3 c er)
 have hCn : Cf.CnIs c (if decide (Cf.cix c.pool ≠ 0) = false ∧ 0 < c.ms.length then 43 else 0):=⟨_,_,Cf.cix_fi c.pool,rfl⟩
 obtain ⟨vb,hvb⟩ : ∃ b,b = Cf.verB c.mi c.ma:=⟨_,rfl⟩
 rw [← hvb] at HV0 HH0 HH1
 have hacc0 : Cf.accB 33 c.ac = (bits .andNot .i64 c.ac 33 != 0):=rfl
 obtain ⟨acc,hacc⟩ : ∃ b,b = Cf.accB 33 c.ac:=⟨_,rfl⟩
 rw [← hacc] at HH0 hacc0
 obtain ⟨t,ht⟩ : ∃ b,b = Cf.claE c.pool c.th:=⟨_,rfl⟩
 rw [← ht] at HT0 HH0
 obtain ⟨u,hu⟩ : ∃ b,b = Cf.claE c.pool c.su:=⟨_,rfl⟩
 rw [← hu] at HU0 HH0
 obtain ⟨cx,hcx⟩ : ∃ n,n = Cf.cix c.pool:=⟨_,rfl⟩
 rw [← hcx] at HCo hCn
 have HCn:=hid hCn
 have HV:=hid HV0
 have HT:=hid HT0
 have HU:=hid HU0
 have hacc1:=hacc0.symm
 clear hp hf hm hs hvb hacc ht hu hcx hCn HV0 HT0 HU0 hacc0
 cases vb with
 | false =>
  have HX:=hid (HH1 41 rfl rfl)
  clear HH0 HH1
  (go_enter Tryz.func18,Tryz.ntmps18;go_wp2_with (first|(go_at_call 38;refine (HV.out _).mono ?_;rintro e w' ⟨rfl,rfl⟩)|(go_at_call 57;refine (HP.out _ BLw).mono ?_;rintro e w1 ⟨pk,hck,rfl,hb1⟩;obtain ⟨bC,hzC,B1⟩:=belows1 hb1;(obtain ⟨q0,q1,q2,q3,q4,q5,q6,q7⟩:=bC.cells8);have HCK:=hid hck;have BC1:=hid bC;have HB1:=hid B1;clear hb1 bC B1 hck;by_cases hz : pk = 0;all_goals (first|(subst hz)|(have hd : (pk != 0) = true:=(by simpa using hz);have HZ:=hid hz;clear hz)))|(go_at_call 58;first|((with_reducible refine (HT.out _ ?_).mono ?_);exact HB1.out;rintro e w2 ⟨rfl,hb2⟩;have HB2:=hid (belows HB1.out hb2 HB1.out.size);have bC:=BC1.out.below hb2 BC1.out.sz;have BC2:=hid bC;clear q0 q1 q2 q3 q4 q5 q6 q7;(obtain ⟨q0,q1,q2,q3,q4,q5,q6,q7⟩:=bC.cells8);clear hb2 bC)|((with_reducible refine (HU.out _ ?_).mono ?_);exact HB2.out;rintro e w3 ⟨rfl,hb3⟩;have HB3:=hid (belows HB2.out hb3 HB2.out.size);have bC:=BC2.out.below hb3 BC2.out.sz;have BC3:=hid bC;clear q0 q1 q2 q3 q4 q5 q6 q7;(obtain ⟨q0,q1,q2,q3,q4,q5,q6,q7⟩:=bC.cells8);clear hb3 bC))))
  go_ret
  exact ⟨41,CL0.out 41 HX.out (by decide),rfl,BLw⟩
 | true =>
  have HH:=hid (fun er pk h1 h2=>HH0 er pk h1 h2 (by decide))
  clear HH0 HH1
  cases acc with
  | true =>
   (go_enter Tryz.func18,Tryz.ntmps18;go_wp2_with (first|(go_at_call 38;refine (HV.out _).mono ?_;rintro e w' ⟨rfl,rfl⟩)|(go_at_call 57;refine (HP.out _ BLw).mono ?_;rintro e w1 ⟨pk,hck,rfl,hb1⟩;obtain ⟨bC,hzC,B1⟩:=belows1 hb1;(obtain ⟨q0,q1,q2,q3,q4,q5,q6,q7⟩:=bC.cells8);have HCK:=hid hck;have BC1:=hid bC;have HB1:=hid B1;clear hb1 bC B1 hck;by_cases hz : pk = 0;all_goals (first|(subst hz)|(have hd : (pk != 0) = true:=(by simpa using hz);have HZ:=hid hz;clear hz)))|(go_at_call 58;first|((with_reducible refine (HT.out _ ?_).mono ?_);exact HB1.out;rintro e w2 ⟨rfl,hb2⟩;have HB2:=hid (belows HB1.out hb2 HB1.out.size);have bC:=BC1.out.below hb2 BC1.out.sz;have BC2:=hid bC;clear q0 q1 q2 q3 q4 q5 q6 q7;(obtain ⟨q0,q1,q2,q3,q4,q5,q6,q7⟩:=bC.cells8);clear hb2 bC)|((with_reducible refine (HU.out _ ?_).mono ?_);exact HB2.out;rintro e w3 ⟨rfl,hb3⟩;have HB3:=hid (belows HB2.out hb3 HB2.out.size);have bC:=BC2.out.below hb3 BC2.out.sz;have BC3:=hid bC;clear q0 q1 q2 q3 q4 q5 q6 q7;(obtain ⟨q0,q1,q2,q3,q4,q5,q6,q7⟩:=bC.cells8);clear hb3 bC))))
   ·go_ret
    exact ⟨42,CL0.out 42 (HH.out 42 0 HCK.out (by rw [if_neg (by decide),if_pos (by decide)])) (by decide),rfl,HB1.out⟩
   ·(go_ret;exact ⟨pk,CL0.out pk (HH.out pk pk HCK.out (by rw [if_pos HZ.out])) HZ.out,rfl,HB1.out⟩)
  | false =>
   by_cases h1 : t = 0
   ·subst h1
    by_cases h2 : u = 0
    ·subst h2
     by_cases h3 : 256 < c.fs.length ∨ 256 < c.ms.length
     ·by_cases h4 : 256 < c.fs.length
      ·have d1 : decide (256 < (c.fs.length : Int)) = true:=by simp;omega
       have H3:=hid h3
       clear h3
       (go_enter Tryz.func18,Tryz.ntmps18;go_wp2_with (first|(go_at_call 38;refine (HV.out _).mono ?_;rintro e w' ⟨rfl,rfl⟩)|(go_at_call 57;refine (HP.out _ BLw).mono ?_;rintro e w1 ⟨pk,hck,rfl,hb1⟩;obtain ⟨bC,hzC,B1⟩:=belows1 hb1;(obtain ⟨q0,q1,q2,q3,q4,q5,q6,q7⟩:=bC.cells8);have HCK:=hid hck;have BC1:=hid bC;have HB1:=hid B1;clear hb1 bC B1 hck;by_cases hz : pk = 0;all_goals (first|(subst hz)|(have hd : (pk != 0) = true:=(by simpa using hz);have HZ:=hid hz;clear hz)))|(go_at_call 58;first|((with_reducible refine (HT.out _ ?_).mono ?_);exact HB1.out;rintro e w2 ⟨rfl,hb2⟩;have HB2:=hid (belows HB1.out hb2 HB1.out.size);have bC:=BC1.out.below hb2 BC1.out.sz;have BC2:=hid bC;clear q0 q1 q2 q3 q4 q5 q6 q7;(obtain ⟨q0,q1,q2,q3,q4,q5,q6,q7⟩:=bC.cells8);clear hb2 bC)|((with_reducible refine (HU.out _ ?_).mono ?_);exact HB2.out;rintro e w3 ⟨rfl,hb3⟩;have HB3:=hid (belows HB2.out hb3 HB2.out.size);have bC:=BC2.out.below hb3 BC2.out.sz;have BC3:=hid bC;clear q0 q1 q2 q3 q4 q5 q6 q7;(obtain ⟨q0,q1,q2,q3,q4,q5,q6,q7⟩:=bC.cells8);clear hb3 bC))))
       ·go_ret
        exact ⟨3,CL0.out 3 (HH.out 3 0 HCK.out (by rw [if_neg (by decide),if_neg (by decide),if_neg (by decide),if_neg (by decide),if_pos H3.out])) (by decide),rfl,HB3.out⟩
       ·(go_ret;exact ⟨pk,CL0.out pk (HH.out pk pk HCK.out (by rw [if_pos HZ.out])) HZ.out,rfl,HB1.out⟩)
      ·have d1 : decide (256 < (c.fs.length : Int)) = false:=by simp;omega
       have d2 : decide (256 < (c.ms.length : Int)) = true:=by simp;omega
       have H3:=hid h3
       clear h3
       (go_enter Tryz.func18,Tryz.ntmps18;go_wp2_with (first|(go_at_call 38;refine (HV.out _).mono ?_;rintro e w' ⟨rfl,rfl⟩)|(go_at_call 57;refine (HP.out _ BLw).mono ?_;rintro e w1 ⟨pk,hck,rfl,hb1⟩;obtain ⟨bC,hzC,B1⟩:=belows1 hb1;(obtain ⟨q0,q1,q2,q3,q4,q5,q6,q7⟩:=bC.cells8);have HCK:=hid hck;have BC1:=hid bC;have HB1:=hid B1;clear hb1 bC B1 hck;by_cases hz : pk = 0;all_goals (first|(subst hz)|(have hd : (pk != 0) = true:=(by simpa using hz);have HZ:=hid hz;clear hz)))|(go_at_call 58;first|((with_reducible refine (HT.out _ ?_).mono ?_);exact HB1.out;rintro e w2 ⟨rfl,hb2⟩;have HB2:=hid (belows HB1.out hb2 HB1.out.size);have bC:=BC1.out.below hb2 BC1.out.sz;have BC2:=hid bC;clear q0 q1 q2 q3 q4 q5 q6 q7;(obtain ⟨q0,q1,q2,q3,q4,q5,q6,q7⟩:=bC.cells8);clear hb2 bC)|((with_reducible refine (HU.out _ ?_).mono ?_);exact HB2.out;rintro e w3 ⟨rfl,hb3⟩;have HB3:=hid (belows HB2.out hb3 HB2.out.size);have bC:=BC2.out.below hb3 BC2.out.sz;have BC3:=hid bC;clear q0 q1 q2 q3 q4 q5 q6 q7;(obtain ⟨q0,q1,q2,q3,q4,q5,q6,q7⟩:=bC.cells8);clear hb3 bC))))
       ·go_ret
        exact ⟨3,CL0.out 3 (HH.out 3 0 HCK.out (by rw [if_neg (by decide),if_neg (by decide),if_neg (by decide),if_neg (by decide),if_pos H3.out])) (by decide),rfl,HB3.out⟩
       ·(go_ret;exact ⟨pk,CL0.out pk (HH.out pk pk HCK.out (by rw [if_pos HZ.out])) HZ.out,rfl,HB1.out⟩)
     ·have d1 : decide (256 < (c.fs.length : Int)) = false:=by simp;omega
      have d2 : decide (256 < (c.ms.length : Int)) = false:=by simp;omega
      have H3:=hid h3
      clear h3
      (go_enter Tryz.func18,Tryz.ntmps18;go_wp2_with (first|(go_at_call 38;refine (HV.out _).mono ?_;rintro e w' ⟨rfl,rfl⟩)|(go_at_call 57;refine (HP.out _ BLw).mono ?_;rintro e w1 ⟨pk,hck,rfl,hb1⟩;obtain ⟨bC,hzC,B1⟩:=belows1 hb1;(obtain ⟨q0,q1,q2,q3,q4,q5,q6,q7⟩:=bC.cells8);have HCK:=hid hck;have BC1:=hid bC;have HB1:=hid B1;clear hb1 bC B1 hck;by_cases hz : pk = 0;all_goals (first|(subst hz)|(have hd : (pk != 0) = true:=(by simpa using hz);have HZ:=hid hz;clear hz)))|(go_at_call 58;first|((with_reducible refine (HT.out _ ?_).mono ?_);exact HB1.out;rintro e w2 ⟨rfl,hb2⟩;have HB2:=hid (belows HB1.out hb2 HB1.out.size);have bC:=BC1.out.below hb2 BC1.out.sz;have BC2:=hid bC;clear q0 q1 q2 q3 q4 q5 q6 q7;(obtain ⟨q0,q1,q2,q3,q4,q5,q6,q7⟩:=bC.cells8);clear hb2 bC)|((with_reducible refine (HU.out _ ?_).mono ?_);exact HB2.out;rintro e w3 ⟨rfl,hb3⟩;have HB3:=hid (belows HB2.out hb3 HB2.out.size);have bC:=BC2.out.below hb3 BC2.out.sz;have BC3:=hid bC;clear q0 q1 q2 q3 q4 q5 q6 q7;(obtain ⟨q0,q1,q2,q3,q4,q5,q6,q7⟩:=bC.cells8);clear hb3 bC))))
      rotate_left 1
      ·(go_ret;exact ⟨pk,CL0.out pk (HH.out pk pk HCK.out (by rw [if_pos HZ.out])) HZ.out,rfl,HB1.out⟩)
      have HX:=hid (HH.out 0 0 HCK.out (by rw [if_neg (by decide),if_neg (by decide),if_neg (by decide),if_neg (by decide),if_neg H3.out]))
      clear HH H3 HCK BC1 BC2 HB1 HB2 q0 q1 q2 q3 q4 q5 q6 q7 d1 d2
      go_loopw [6] (fun i wr=>∃ k : Nat,k ≤ c.fs.length ∧ i = .int .i64 k ∧ Below w3.heap.size w3 wr ∧ Hid (∀ j,j < k → Cf.FdIs c.pool c.fs j 0)) (fun i _=>c.fs.length - (intOf i).toNat)
      case atStart=>exact ⟨0,Nat.zero_le _,rfl,Below.refl _ _,fun j hj=>by omega⟩
      case round =>
       obtain ⟨k,hk,rfl,hbl,HAll⟩:=hrel
       have HJ:=hid hbl
       have hBr : Below w.heap.size w wr:=belows HB3.out hbl HB3.out.size
       have bC:=BC3.out.below hbl BC3.out.sz
       (obtain ⟨q0,q1,q2,q3,q4,q5,q6,q7⟩:=bC.cells8)
       by_cases hlt : k < c.fs.length
       ·obtain ⟨m,hx⟩ : ∃ x,c.fs[k]? = some x:=⟨c.fs[k],List.getElem?_eq_getElem hlt⟩
        have i1 : (k : Int) < (c.fs.length : Int):=by omega
        have HF:=hid (HFd.out k m hx wr hBr)
        clear hx bC hbl
        go_wp2_with (go_at_call 59;refine HF.out.mono ?_;rintro e w4 ⟨er,hR,rfl,hb4⟩;have HR:=hid hR;have HB4:=hid hb4;clear hb4;by_cases hz : er = 0;all_goals (first|(subst hz;clear hR)|(have hd : (er != 0) = true:=(by simpa using hz);have HZ:=hid hz;clear hz hR)))
        ·go_roundw
         case rel=>exact ⟨k + 1,by omega,by go_num,belows HJ.out HB4.out HJ.out.size,fun j hj=>by
          by_cases e : j = k
          ·subst e;exact HR.out
          ·exact HAll.out j (by omega)⟩
         case measure=>simp [intOf];omega
        ·go_ret
         exact ⟨er,CL1.out er HX.out (Cf.FstR.at HAll.out hlt HR.out HZ.out) HZ.out,rfl,belows hBr HB4.out hBr.size⟩
       ·obtain rfl : k = c.fs.length:=by omega
        have hki : ¬ ((c.fs.length : Int) < (c.fs.length : Int)):=by omega
        have HFA:=hid (Cf.FstR.all HAll.out)
        clear q0 q1 q2 q3 q4 q5 q6 bC hbl HAll hlt hk
        have bC:=BC3.out.below HJ.out BC3.out.sz
        (obtain ⟨q0,q1,q2,q3,q4,q5,q6,q7⟩:=bC.cells8)
        go_wp2_with fail
        go_simp
        obtain ⟨wo,rfl⟩ : ∃ wo,wo = wr:=⟨_,rfl⟩
        clear q0 q1 q2 q3 q4 q5 q6 q7 bC
        go_loopw [8] (fun i wr=>∃ k : Nat,k ≤ c.ms.length ∧ i = .int .i64 k ∧ Below w3.heap.size w3 wr ∧ Hid (∀ j,j < k → Cf.MeIs c.pool c.ms j 0)) (fun i _=>c.ms.length - (intOf i).toNat)
        case atStart=>exact ⟨0,Nat.zero_le _,rfl,HJ.out,fun j hj=>by omega⟩
        case round =>
         obtain ⟨k,hk,rfl,hbl,HAll⟩:=hrel
         have HJ2:=hid hbl
         have hBr : Below w.heap.size w wr:=belows HB3.out hbl HB3.out.size
         have bC:=BC3.out.below hbl BC3.out.sz
         (obtain ⟨q0,q1,q2,q3,q4,q5,q6,q7⟩:=bC.cells8)
         by_cases hlt : k < c.ms.length
         ·obtain ⟨m,hx⟩ : ∃ x,c.ms[k]? = some x:=⟨c.ms[k],List.getElem?_eq_getElem hlt⟩
          have i1 : (k : Int) < (c.ms.length : Int):=by omega
          have HF:=hid (HMe.out k m hx wr hBr)
          clear hx bC hbl
          go_wp2_with (go_at_call 60;refine HF.out.mono ?_;rintro e w4 ⟨er,hR,rfl,hb4⟩;have HR:=hid hR;have HB4:=hid hb4;clear hb4;by_cases hz : er = 0;all_goals (first|(subst hz;clear hR)|(have hd : (er != 0) = true:=(by simpa using hz);have HZ:=hid hz;clear hz hR)))
          ·go_roundw
           case rel=>exact ⟨k + 1,by omega,by go_num,belows HJ2.out HB4.out HJ2.out.size,fun j hj=>by
            by_cases e : j = k
            ·subst e;exact HR.out
            ·exact HAll.out j (by omega)⟩
           case measure=>simp [intOf];omega
          ·go_ret
           exact ⟨er,CL2.out er HX.out HFA.out (Cf.FstR.at HAll.out hlt HR.out HZ.out) HZ.out,rfl,belows hBr HB4.out hBr.size⟩
         ·obtain rfl : k = c.ms.length:=by omega
          have hki : ¬ ((c.ms.length : Int) < (c.ms.length : Int)):=by omega
          have HMA:=hid (Cf.FstR.all HAll.out)
          have HC2:=hid (HCo.out wr hBr)
          clear HAll bC hbl
          by_cases h0 : 0 < c.ms.length
          ·have d3 : decide (0 < (c.ms.length : Int)) = true:=decide_eq_true (by omega)
           have d3' : decide (0 < c.ms.length) = true:=decide_eq_true h0
           by_cases h5 : cx = 0
           ·subst h5
            have HC3:=hid (CL3.out 43 HX.out HFA.out HMA.out (by have:=HCn.out;rwa [if_pos ⟨by decide,h0⟩] at this))
            clear h0
            go_wp2_with (go_at_call 50;refine HC2.out.mono ?_;rintro e w5 ⟨rfl,hb5⟩)
            go_ret
            exact ⟨43,HC3.out,rfl,belows hBr hb5 hBr.size⟩
           ·have d4 : ((cx : Int) == 0) = false:=by simp;omega
            have HC3:=hid (CL3.out 0 HX.out HFA.out HMA.out (by have:=HCn.out;rwa [if_neg (by rintro ⟨h,-⟩;simp at h;exact h5 h)] at this))
            clear h0 h5
            go_wp2_with (go_at_call 50;refine HC2.out.mono ?_;rintro e w5 ⟨rfl,hb5⟩)
            go_ret
            exact ⟨0,HC3.out,rfl,belows hBr hb5 hBr.size⟩
          ·have d3 : decide (0 < (c.ms.length : Int)) = false:=decide_eq_false (by omega)
           have d3' : decide (0 < c.ms.length) = false:=decide_eq_false h0
           have HC3:=hid (CL3.out 0 HX.out HFA.out HMA.out (by have:=HCn.out;rwa [if_neg (by rintro ⟨-,h⟩;exact h0 h)] at this))
           clear h0
           go_wp2_with fail
           go_ret
           exact ⟨0,HC3.out,rfl,hBr⟩
    ·have hd2 : (u != 0) = true:=by simpa using h2
     have H2:=hid h2
     clear h2
     (go_enter Tryz.func18,Tryz.ntmps18;go_wp2_with (first|(go_at_call 38;refine (HV.out _).mono ?_;rintro e w' ⟨rfl,rfl⟩)|(go_at_call 57;refine (HP.out _ BLw).mono ?_;rintro e w1 ⟨pk,hck,rfl,hb1⟩;obtain ⟨bC,hzC,B1⟩:=belows1 hb1;(obtain ⟨q0,q1,q2,q3,q4,q5,q6,q7⟩:=bC.cells8);have HCK:=hid hck;have BC1:=hid bC;have HB1:=hid B1;clear hb1 bC B1 hck;by_cases hz : pk = 0;all_goals (first|(subst hz)|(have hd : (pk != 0) = true:=(by simpa using hz);have HZ:=hid hz;clear hz)))|(go_at_call 58;first|((with_reducible refine (HT.out _ ?_).mono ?_);exact HB1.out;rintro e w2 ⟨rfl,hb2⟩;have HB2:=hid (belows HB1.out hb2 HB1.out.size);have bC:=BC1.out.below hb2 BC1.out.sz;have BC2:=hid bC;clear q0 q1 q2 q3 q4 q5 q6 q7;(obtain ⟨q0,q1,q2,q3,q4,q5,q6,q7⟩:=bC.cells8);clear hb2 bC)|((with_reducible refine (HU.out _ ?_).mono ?_);exact HB2.out;rintro e w3 ⟨rfl,hb3⟩;have HB3:=hid (belows HB2.out hb3 HB2.out.size);have bC:=BC2.out.below hb3 BC2.out.sz;have BC3:=hid bC;clear q0 q1 q2 q3 q4 q5 q6 q7;(obtain ⟨q0,q1,q2,q3,q4,q5,q6,q7⟩:=bC.cells8);clear hb3 bC))))
     ·go_ret
      exact ⟨u,CL0.out u (HH.out u 0 HCK.out (by rw [if_neg (by decide),if_neg (by decide),if_neg (by decide),if_pos H2.out])) H2.out,rfl,HB3.out⟩
     ·(go_ret;exact ⟨pk,CL0.out pk (HH.out pk pk HCK.out (by rw [if_pos HZ.out])) HZ.out,rfl,HB1.out⟩)
   ·have hd2 : (t != 0) = true:=by simpa using h1
    have H1:=hid h1
    clear h1
    (go_enter Tryz.func18,Tryz.ntmps18;go_wp2_with (first|(go_at_call 38;refine (HV.out _).mono ?_;rintro e w' ⟨rfl,rfl⟩)|(go_at_call 57;refine (HP.out _ BLw).mono ?_;rintro e w1 ⟨pk,hck,rfl,hb1⟩;obtain ⟨bC,hzC,B1⟩:=belows1 hb1;(obtain ⟨q0,q1,q2,q3,q4,q5,q6,q7⟩:=bC.cells8);have HCK:=hid hck;have BC1:=hid bC;have HB1:=hid B1;clear hb1 bC B1 hck;by_cases hz : pk = 0;all_goals (first|(subst hz)|(have hd : (pk != 0) = true:=(by simpa using hz);have HZ:=hid hz;clear hz)))|(go_at_call 58;first|((with_reducible refine (HT.out _ ?_).mono ?_);exact HB1.out;rintro e w2 ⟨rfl,hb2⟩;have HB2:=hid (belows HB1.out hb2 HB1.out.size);have bC:=BC1.out.below hb2 BC1.out.sz;have BC2:=hid bC;clear q0 q1 q2 q3 q4 q5 q6 q7;(obtain ⟨q0,q1,q2,q3,q4,q5,q6,q7⟩:=bC.cells8);clear hb2 bC)|((with_reducible refine (HU.out _ ?_).mono ?_);exact HB2.out;rintro e w3 ⟨rfl,hb3⟩;have HB3:=hid (belows HB2.out hb3 HB2.out.size);have bC:=BC2.out.below hb3 BC2.out.sz;have BC3:=hid bC;clear q0 q1 q2 q3 q4 q5 q6 q7;(obtain ⟨q0,q1,q2,q3,q4,q5,q6,q7⟩:=bC.cells8);clear hb3 bC))))
    ·go_ret
     exact ⟨t,CL0.out t (HH.out t 0 HCK.out (by rw [if_neg (by decide),if_neg (by decide),if_pos H1.out])) H1.out,rfl,HB2.out⟩
    ·(go_ret;exact ⟨pk,CL0.out pk (HH.out pk pk HCK.out (by rw [if_pos HZ.out])) HZ.out,rfl,HB1.out⟩)
end Go.Proofs.YtnojgiflgmnjlaaGreatDoor
namespace Go.Proofs.YtnojgiflgmnjlaaGreatDoor
open Go.RowKit
def DcPost (bs : List UInt8) (w : World) (e : Ending) (w' : World) : Prop :=
 ∃ c er vs,Cf.DcIs bs c er ∧ e = .returned (.tuple #[.agg vs,.int .i64 er]) ∧ ClR w' vs c ∧ (∀ x ∈ c.pool,x.s.size ≤ 255 ∧ L3.I6 x.n) ∧ (c.pool.length ≤ 4097 ∧ c.fs.length ≤ 65535 ∧ c.ms.length ≤ 65535) ∧ Below w.heap.size w w'
theorem decB {w w1 : World} {o o' : Obj} (hg : ((w.alloc o).alloc o').grownBy w1 (some (w.heap.size + 1))) : Below w.heap.size w w1:=by
 have z:=hg.size
 simp only [World.size_alloc] at z
 have h2 : Below w.heap.size w ((w.alloc o).alloc o'):=BLw
 exact ⟨hg.os.trans h2.os,hg.tape.trans h2.tape,hg.output.trans h2.output,by omega,fun i hi=>(hg.block i (by simp only [World.size_alloc];omega) (fun e=>by have:=Option.some.inj e;omega)).trans (h2.block i hi)⟩
theorem bnd_err_ne {α β : Type} {x : Cf.Ps α} {f : α → Cf.Ps β} (hx : ∀ l e,x l = .error e → e ≠ 0) (hf : ∀ a l e,f a l = .error e → e ≠ 0) (l : List UInt8) (e : Int) (h : Cf.bnd x f l = .error e) : e ≠ 0:=by
 unfold Cf.bnd at h
 cases hy : x l with
 | error e'=>rw [hy] at h;cases h;exact hx l _ hy
 | ok z=>obtain ⟨a,r⟩:=z;rw [hy] at h;exact hf a r e h
theorem u2_ne (l : List UInt8) (e : Int) (h : Cf.u2 l = .error e) : e ≠ 0:=by
 match l,h with
 | [],h|[_],h=>cases h;decide
 | _ :: _ :: _,h=>cases h
theorem ret_ne {α : Type} (a : α) (l : List UInt8) (e : Int) (h : Cf.ret a l = .error e) : e ≠ 0:=by cases h
theorem want_ne {b : Bool} {er : Int} (he : er ≠ 0) (l : List UInt8) (e : Int) (h : Cf.want b er l = .error e) : e ≠ 0:=by
 unfold Cf.want at h
 split at h
 ·cases h
 ·cases h;exact he
theorem u4_ne (l : List UInt8) (e : Int) (h : Cf.u4 l = .error e) : e ≠ 0:=bnd_err_ne u2_ne (fun _=>bnd_err_ne u2_ne fun _=>ret_ne _) l e h
theorem none_ne (l : List UInt8) (e : Int) (h : Cf.noneP l = .error e) : e ≠ 0:=bnd_err_ne u2_ne (fun _=>want_ne (by decide)) l e h
theorem take_ne (n : Nat) (l : List UInt8) (e : Int) (h : Cf.takeP n l = .error e) : e ≠ 0:=by
 unfold Cf.takeP at h
 split at h
 ·cases h
 ·cases h;decide
theorem listP_ne {α : Type} {p : Cf.Ps α} (hp : ∀ l e,p l = .error e → e ≠ 0) : ∀ (n : Nat) (l : List UInt8) (e : Int),Cf.listP p n l = .error e → e ≠ 0
 | 0,l,e,h=>ret_ne _ l e h
 | n + 1,l,e,h=>bnd_err_ne hp (fun _=>bnd_err_ne (listP_ne hp n) fun _=>ret_ne _) l e h
theorem listN_ne {α : Type} {p : Cf.Ps α} (hp : ∀ l e,p l = .error e → e ≠ 0) (l : List UInt8) (e : Int) (h : Cf.listN p l = .error e) : e ≠ 0:=bnd_err_ne u2_ne (fun _=>listP_ne hp _) l e h
theorem mb_ne (l : List UInt8) (e : Int) (h : Cf.mbP l = .error e) : e ≠ 0:=bnd_err_ne u2_ne (fun _=>bnd_err_ne u2_ne fun _=>bnd_err_ne u2_ne fun _=>ret_ne _) l e h
theorem hn_ne (l : List UInt8) (e : Int) (h : Cf.hnP l = .error e) : e ≠ 0:=bnd_err_ne u2_ne (fun _=>bnd_err_ne u2_ne fun _=>bnd_err_ne u2_ne fun _=>bnd_err_ne u2_ne fun _=>ret_ne _) l e h
theorem fd_ne (l : List UInt8) (e : Int) (h : Cf.fdP l = .error e) : e ≠ 0:=bnd_err_ne mb_ne (fun _=>bnd_err_ne none_ne fun _=>ret_ne _) l e h
theorem body_ne (m : Cf.Mb) (l : List UInt8) (e : Int) (h : Cf.bodyP m l = .error e) : e ≠ 0 :=
 bnd_err_ne u2_ne (fun _=>bnd_err_ne u2_ne fun _=>bnd_err_ne u4_ne fun _=>bnd_err_ne (take_ne _) fun _=>bnd_err_ne (listN_ne hn_ne) fun _=>bnd_err_ne none_ne fun _=>ret_ne _) l e h
theorem sized_ne (n : Int) (m : Cf.Mb) (l : List UInt8) (e : Int) (h : Cf.sizedP n m l = .error e) : e ≠ 0:=by
 unfold Cf.sizedP at h
 split at h
 ·rename_i hb;cases h;exact body_ne m l _ hb
 ·split at h
  ·cases h
  ·cases h;decide
theorem me_ne (code : Int) (l : List UInt8) (e : Int) (h : Cf.meP code l = .error e) : e ≠ 0 :=
 bnd_err_ne mb_ne (fun _=>bnd_err_ne u2_ne fun _=>bnd_err_ne (want_ne (by decide)) fun _=>bnd_err_ne u2_ne fun _=>bnd_err_ne (want_ne (by decide)) fun _=>bnd_err_ne u4_ne fun _=>sized_ne _ _) l e h
theorem left_ne (l : List UInt8) (e : Int) (h : Cf.leftP l = .error e) : e ≠ 0:=by
 unfold Cf.leftP at h
 split at h
 ·cases h
 ·cases h;decide
theorem cl_ne (l : List UInt8) (e : Int) (h : Cf.clP l = .error e) : e ≠ 0 :=
 bnd_err_ne u4_ne (fun _=>bnd_err_ne (want_ne (by decide)) fun _=>bnd_err_ne u2_ne fun _=>bnd_err_ne u2_ne fun _=>bnd_err_ne (want_ne (by decide)) fun _=>bnd_err_ne (fun _ _ h=>L3.plP_err h) fun _=>bnd_err_ne u2_ne fun _=>bnd_err_ne u2_ne fun _ =>
  bnd_err_ne u2_ne fun _=>bnd_err_ne none_ne fun _=>bnd_err_ne (listN_ne fd_ne) fun _=>bnd_err_ne (listN_ne (me_ne _)) fun _=>bnd_err_ne none_ne fun _=>bnd_err_ne left_ne fun _=>ret_ne _) l e h
theorem cl_err {bs : List UInt8} {er : Int} (h : Cf.clP bs = .error er) : er ≠ 0:=cl_ne bs er h
end Go.Proofs.YtnojgiflgmnjlaaGreatDoor
namespace Go.Proofs.YtnojgiflgmnjlaaGreatDoor
open Go.RowKit
set_option maxHeartbeats 2000000 in
theorem decode_any (bs : List UInt8) (v : Value) (w : World) (t1 : L1.Tabs w) (t3 : L3.Tabs w) (hv : L3.Bs w.heap.size w v bs) :
  Calls Tryz.prog 11 #[v] w (DcPost bs w):=by
 have hlen:=hv.1
 have HR0:=hid (fun c er (h : Cf.DcIs bs c er)=>h)
 by_cases h1 : 65536 < bs.length
 ·have d1 : decide (65536 < (bs.length : Int)) = true:=by simp;omega
  have d2 : decide (65536 < bs.length) = true:=by simpa using h1
  have hr : Cf.DcIs bs Cf.K0 3:=by unfold Cf.DcIs;rw [if_pos h1];exact ⟨rfl,rfl⟩
  obtain ⟨a,cap,rfl⟩:=hv.len
  have HR:=hid hr
  clear hv hr h1
  go_enter Tryz.func11,Tryz.ntmps11
  go_wp2
  exact bodyPost_ret (v:=.tuple #[.agg #[.int .i64 0,.int .i64 0,.slice none 0 0,.int .i64 0,.int .i64 0,.int .i64 0,.slice none 0 0,.slice none 0 0],.int .i64 3]) (by simp [results,Tryz.results11,go_sem]) rfl ⟨_,_,_,HR.out,rfl,k0_reads _,fun x h=>(by cases h),⟨by simp [Cf.K0],by simp [Cf.K0],by simp [Cf.K0]⟩,BLw⟩
 ·have d1 : decide (65536 < (bs.length : Int)) = false:=by simp;omega
  have d2 : decide (65536 < bs.length) = false:=by simpa using h1
  have hb0 : Below w.heap.size w ((w.alloc (.cells #[.int .i64 0,.int .i64 0,.slice none 0 0,.int .i64 0,.int .i64 0,.int .i64 0,.slice none 0 0,.slice none 0 0] 26)).alloc (.cells #[v,.int .i64 0] 60)):=BLw
  have hrd : Rdr ((w.alloc (.cells #[.int .i64 0,.int .i64 0,.slice none 0 0,.int .i64 0,.int .i64 0,.int .i64 0,.slice none 0 0,.slice none 0 0] 26)).alloc (.cells #[v,.int .i64 0] 60)) (w.heap.size + 1) 0 bs:=by
   refine ⟨v,?_,(hv.below hb0 (Nat.le_refl _)).mono (by omega)⟩
   have:=L3.BX.new (w.alloc (.cells #[.int .i64 0,.int .i64 0,.slice none 0 0,.int .i64 0,.int .i64 0,.int .i64 0,.slice none 0 0,.slice none 0 0] 26)) #[v,.int .i64 0] 60
   simpa [L3.BX] using this
  have HAt:=hid (attempt_any (w.heap.size + 1) bs _ (t3.below hb0 t3.size) (by have:=t3.size;omega) hrd)
  have HCk:=hid (fun (c : Cf.Cl) (W : World) (h1 : L3.CkIs c.pool 0 ∧ ∀ x ∈ c.pool,L3.I6 x.n) (h2 : c.pool.length ≤ 4097 ∧ c.fs.length ≤ 65535 ∧ c.ms.length ≤ 65535) (h3 : Below w.heap.size w W)=>(⟨t1.below h3 t1.size,t3.below h3 t3.size,by omega,fun x hx=>by have:=pool_small h1.1 x hx;omega⟩ : Ck W c))
  have HE:=hid (fun er (h : Cf.clP bs = .error er)=>(show Cf.DcIs bs Cf.K0 er by unfold Cf.DcIs;rw [if_neg h1,h];exact ⟨rfl,rfl⟩))
  have HO:=hid (fun c r er (h : Cf.clP bs = .ok (c,r)) (h2 : Cf.ClIs c er)=>(show (er = 0 → Cf.DcIs bs c 0) ∧ (er ≠ 0 → Cf.DcIs bs Cf.K0 er) by
   constructor
   ·intro h3;subst h3;unfold Cf.DcIs;rw [if_neg h1,h];exact ⟨0,h2,by rw [if_pos rfl];exact ⟨rfl,rfl⟩⟩
   ·intro h3;unfold Cf.DcIs;rw [if_neg h1,h];exact ⟨er,h2,by rw [if_neg h3];exact ⟨rfl,rfl⟩⟩))
  obtain ⟨a,cap,rfl⟩:=hv.len
  unfold AtPost K0V at HAt
  obtain ⟨X,hX⟩ : ∃ X,X = Cf.clP bs:=⟨_,rfl⟩
  clear hv hrd h1 hb0 hX X
  go_enter Tryz.func11,Tryz.ntmps11
  go_wp2_with (first|(go_at_call 34;refine HAt.out.mono ?_;rintro e w1 (⟨er,HX,rfl,hg⟩|⟨c,r,vs,HX,rfl,hO,hsz,hg⟩);all_goals (have bN:=L3.BX.grown (L3.BX.below (L3.BX.new w #[.int .i64 0,.int .i64 0,.slice none 0 0,.int .i64 0,.int .i64 0,.int .i64 0,.slice none 0 0,.slice none 0 0] 26) ((Below.refl _ _).alloc (Nat.le_refl _) _) (by simp)) hg (fun e=>by (have:=Option.some.inj e;omega));have B1 : Below w.heap.size w w1:=decB hg;have hzN:=bN.sz;(obtain ⟨n0,n1,n2,n3,n4,n5,n6,n7⟩:=bN.cells8;have f0:=bN.frozen 0;have f1:=bN.frozen 1;have f2:=bN.frozen 2;have f3:=bN.frozen 3;have f4:=bN.frozen 4;have f5:=bN.frozen 5;have f6:=bN.frozen 6;have f7:=bN.frozen 7));all_goals (first|(have hne:=cl_err HX;have hd : (er != 0) = true:=(by simpa using hne);clear hne)|(have hcr:=hO.reads ⟨by omega,by omega,by omega⟩;simp only [World.size_alloc] at hO;obtain ⟨pv,fv,mv,rfl,hp,hf,hm⟩:=hcr;have HOw:=hid hO;obtain ⟨pa,pc,rfl⟩:=hp.len;obtain ⟨fa,fc,rfl⟩:=hf.len;obtain ⟨ma2,mc,rfl⟩:=hm.len;have hpl:=cl_pool HX;have HPL:=hid hpl;have HCR:=hid (show ClR w1 _ c from ⟨_,_,_,rfl,hp,hf,hm⟩);have HSZ:=hid hsz;clear hpl hp hf hm hO)))|(go_at_call 35;refine (checked_any c _ _ (HCk.out _ _ HPL.out HSZ.out ?_) (HCR.out.below ((Below.refl w1.heap.size w1).alloc (Nat.le_refl _) _) (Nat.le_refl _))).mono ?_;exact (BLw);rintro e w2 ⟨h2|⟨er,hz,hR,rfl⟩,hb2⟩;all_goals (try (obtain ⟨hR,rfl⟩:=h2));all_goals (have hzb:=hb2.size;simp only [World.size_alloc] at hzb;have hlt2 : w1.heap.size < (w1.alloc (.cells #[.int .i64 c.mi,.int .i64 c.ma,.slice pa c.pool.length pc,.int .i64 c.ac,.int .i64 c.th,.int .i64 c.su,.slice fa c.fs.length fc,.slice ma2 c.ms.length mc] 26)).heap.size:=(by simp);have B12 : Below w1.heap.size w1 w2:=belows ((Below.refl _ _).alloc (Nat.le_refl _) _) hb2 (by simp only [World.size_alloc];omega);have B2:=belows B1 B12 B1.size;have bN:=bN.below B12 bN.sz;(obtain ⟨n0,n1,n2,n3,n4,n5,n6,n7⟩:=bN.cells8;have f0:=bN.frozen 0;have f1:=bN.frozen 1;have f2:=bN.frozen 2;have f3:=bN.frozen 3;have f4:=bN.frozen 4;have f5:=bN.frozen 5;have f6:=bN.frozen 6;have f7:=bN.frozen 7);have HOw2:=hid (HOw.out.below B12 (Nat.le_refl _));have HR:=hid hR;clear hb2 hR);all_goals (try unfold K0V)))
  ·exact bodyPost_ret (v:=.tuple #[.agg #[.int .i64 0,.int .i64 0,.slice none 0 0,.int .i64 0,.int .i64 0,.int .i64 0,.slice none 0 0,.slice none 0 0],.int .i64 er]) (by simp [results,Tryz.results11,go_sem,n0,n1,n2,n3,n4,n5,n6,n7,World.cell?_alloc_past,hzN]) rfl ⟨_,_,_,HE.out er HX,rfl,k0_reads _,fun x h=>(by cases h),⟨by simp [Cf.K0],by simp [Cf.K0],by simp [Cf.K0]⟩,BLw⟩
  ·refine bodyPost_ret (v:=.tuple #[.agg #[.int .i64 c.mi,.int .i64 c.ma,.slice pa c.pool.length pc,.int .i64 c.ac,.int .i64 c.th,.int .i64 c.su,.slice fa c.fs.length fc,.slice ma2 c.ms.length mc],.int .i64 0]) (by simp [results,Tryz.results11,go_sem,n0,n1,n2,n3,n4,n5,n6,n7]) rfl ⟨c,0,_,(HO.out c r 0 HX HR.out).1 rfl,rfl,?_,fun x hx=>⟨pool_small HPL.out.1 x hx,HPL.out.2 x hx⟩,HSZ.out,BLw⟩
   have hs:=HSZ.out
   refine OCl.reads (base:=w.heap.size + 1 + 1) ?_ ⟨by omega,by omega,by omega⟩
   have hlt : w.heap.size < w.heap.size + 1 + 1:=by omega
   (iterate 8 (refine OCl.grown ?_ (L3.set_grown _ _ _ _) hlt))
   exact HOw2.out
  ·exact bodyPost_ret (v:=.tuple #[.agg #[.int .i64 0,.int .i64 0,.slice none 0 0,.int .i64 0,.int .i64 0,.int .i64 0,.slice none 0 0,.slice none 0 0],.int .i64 er]) (by simp [results,Tryz.results11,go_sem,n0,n1,n2,n3,n4,n5,n6,n7]) rfl ⟨_,_,_,(HO.out c r er HX HR.out).2 hz,rfl,k0_reads _,fun x h=>(by cases h),⟨by simp [Cf.K0],by simp [Cf.K0],by simp [Cf.K0]⟩,BLw⟩
end Go.Proofs.YtnojgiflgmnjlaaGreatDoor
namespace Go.Proofs.YtnojgiflgmnjlaaGreatDoor
open Go.RowKit
def PoolSz (l : List L3.Cp.C) : Prop:=l.length * 48 ≤ 140737488355328 ∧ ∀ x ∈ l,x.s.size ≤ 140737488355328
def Kx (lo pb : Nat) (w W : World) : Prop:=w.heap.size ≤ W.heap.size ∧ ∀ i,i < w.heap.size → i < lo ∨ pb < i → W.heap[i]? = w.heap[i]?
theorem Kx.refl (lo pb : Nat) (w : World) : Kx lo pb w w:=⟨Nat.le_refl _,fun _ _ _=>rfl⟩
theorem Kx.trans {lo pb : Nat} {a b c : World} (h : Kx lo pb a b) (k : Kx lo pb b c) : Kx lo pb a c:=⟨Nat.le_trans h.1 k.1,fun i hi ho=>(k.2 i (Nat.lt_of_lt_of_le hi h.1) ho).trans (h.2 i hi ho)⟩
theorem Kx.grown {lo pb r : Nat} {a b : World} (h : a.grownBy b (some r)) (h1 : lo ≤ r) (h2 : r ≤ pb) : Kx lo pb a b:=⟨h.size,fun i hi ho=>h.block i hi (fun e=>by have:=Option.some.inj e;omega)⟩
theorem Kx.below {lo pb : Nat} {a b : World} (h : Below a.heap.size a b) : Kx lo pb a b:=⟨h.size,fun i hi _=>h.block i hi⟩
structure Bd (w : World) (lo pb : Nat) (l : List L3.Cp.C) (er : Int) : Prop where
 box : ∃ v,w.heap[pb]? = some (.cells #[v,.int .i64 er] 95 (0,0)) ∧ ∀ W,Kx lo pb w W → Kit.IsS 5 W v l.length (l.flatMap L3.cL)
 sz : PoolSz l
 lo : lo ≤ pb
theorem Bd.lt {w : World} {lo pb : Nat} {l : List L3.Cp.C} {er : Int} (h : Bd w lo pb l er) : pb < w.heap.size:=by
 obtain ⟨v,h1,-⟩:=h.box
 exact (Array.getElem?_eq_some_iff.1 h1).1
theorem Bd.keep {w w' : World} {lo pb : Nat} {l : List L3.Cp.C} {er : Int} (h : Bd w lo pb l er) (hb : Below (pb + 1) w w') (hg : w.grownBy w' (some pb)) : Bd w' lo pb l er:=by
 obtain ⟨v,h1,h2⟩:=h.box
 exact ⟨⟨v,(hb.block pb (Nat.lt_succ_self pb)).trans h1,fun W k=>h2 W ((Kx.grown hg h.lo (Nat.le_refl _)).trans k)⟩,h.sz,h.lo⟩
theorem Bd.below {w w' : World} {lo pb : Nat} {l : List L3.Cp.C} {er : Int} (h : Bd w lo pb l er) (hb : Below w.heap.size w w') : Bd w' lo pb l er:=by
 obtain ⟨v,h1,h2⟩:=h.box
 exact ⟨⟨v,(hb.block pb h.lt).trans h1,fun W k=>h2 W ((Kx.below hb).trans k)⟩,h.sz,h.lo⟩
def AdS (l : List L3.Cp.C) (er : Int) (c : L3.Cp.C) (m : List L3.Cp.C) (i : Nat) (e2 : Int) : Prop:=(er ≠ 0 ∧ m = l ∧ i = 0 ∧ e2 = er) ∨ (er = 0 ∧ L3.AdIs l c m i e2)
theorem ad_sz {l : List L3.Cp.C} {c : L3.Cp.C} {m : List L3.Cp.C} {i : Nat} {e2 : Int} (h : L3.AdIs l c m i e2) (hm : e2 = 0 ∨ m = []) : PoolSz m:=by
 rcases hm with rfl|rfl
 ·obtain ⟨-,-,-,hc,-⟩:=L3.ad_good h
  have h1:=(L3.ck_all.1 hc).1
  exact ⟨by omega,fun x hx=>by have:=pool_small hc x hx;omega⟩
 ·exact ⟨by simp,fun x hx=>by cases hx⟩
theorem ad_nil {l : List L3.Cp.C} {c : L3.Cp.C} {m : List L3.Cp.C} {i : Nat} {er : Int} (h : L3.AdIs l c m i er) : er = 0 ∨ m = []:=by
 rcases h with ⟨-,-,h,-⟩|⟨-,⟨-,-,h,-⟩|⟨-,⟨-,h,-⟩|⟨-,⟨-,-,h,-⟩|⟨-,h,-⟩⟩⟩⟩
 ·exact .inr h
 ·exact .inr h
 ·exact .inl h
 ·exact .inr h
 ·exact .inl h
theorem two_set {w : World} {pb : Nat} {v x : Value} (h : w.heap[pb]? = some (.cells #[v,x] 95 (0,0))) (u y : Value) : ((w.setCell ⟨pb,0,none⟩ u).setCell ⟨pb,1,none⟩ y).heap[pb]? = some (.cells #[u,y] 95 (0,0)):=by
 have h1 : (w.setCell ⟨pb,0,none⟩ u).heap[pb]? = some (.cells #[u,x] 95 (0,0)):=by
  obtain ⟨hlt,hk⟩:=Array.getElem?_eq_some_iff.1 h
  show (w.heap.modify pb _)[pb]? = _
  rw [Array.getElem?_eq_getElem (by rw [Array.size_modify];exact hlt),Array.getElem_modify_self,hk]
  rfl
 obtain ⟨hlt,hk⟩:=Array.getElem?_eq_some_iff.1 h1
 show ((w.setCell ⟨pb,0,none⟩ u).heap.modify pb _)[pb]? = _
 rw [Array.getElem?_eq_getElem (by rw [Array.size_modify];exact hlt),Array.getElem_modify_self,hk]
 rfl
def BdPost (lo pb : Nat) (l : List L3.Cp.C) (er : Int) (c : L3.Cp.C) (w : World) (e : Ending) (w' : World) : Prop:=∃ m i e2,AdS l er c m i e2 ∧ e = .returned (.int .i64 (i : Nat)) ∧ w.grownBy w' (some pb) ∧ Bd w' lo pb m e2
set_option maxHeartbeats 1000000 in
theorem badd_any (lo pb : Nat) (l : List L3.Cp.C) (er : Int) (c : L3.Cp.C) (w : World) (ht : L3.Tabs w) (h : Bd w lo pb l er) (hc : c.s.size ≤ 140737488355328) :
  Calls Tryz.prog 124 #[.pointer (some ⟨pb,0,none⟩),.agg (L3.cC c)] w (BdPost lo pb l er c w):=by
 have hps:=h.lt
 have hB:=h
 obtain ⟨⟨v,hbx,hst⟩,hsz,hlo⟩:=h
 have k0 : w.cell? ⟨pb,0,none⟩ = some v:=by simp [World.cell?,hbx]
 have k1 : w.cell? ⟨pb,1,none⟩ = some (.int .i64 er):=by simp [World.cell?,hbx]
 have HBd:=hid hB
 have HAd:=hid (fun W (k : Below w.heap.size w W)=>L3.add_any l c v W (ht.below k ht.size) (hst W (Kx.below k)) hsz.2 hc hsz.1)
 have HBx:=hid hbx
 unfold BdPost L3.cC
 obtain ⟨ct,cs,cn,ca,cb⟩:=c
 unfold L3.cC at HAd
 dsimp only at HAd ⊢
 obtain ⟨a,cap,rfl⟩:=(hst w (Kx.refl _ _ _)).len
 clear hB hbx hst hsz ht hc
 by_cases he : er = 0
 ·subst he
  go_enter Tryz.func124,Tryz.ntmps124
  go_wp2
  have bX:=L3.BX.new w #[.int .i64 ct,.string cs,.int .i64 cn,.int .i64 ca,.int .i64 cb] 56
  have B0 : Below w.heap.size w (w.alloc (.cells #[.int .i64 ct,.string cs,.int .i64 cn,.int .i64 ca,.int .i64 cb] 56)):=BLw
  obtain ⟨W,hW⟩ : ∃ W,W = w.alloc (.cells #[.int .i64 ct,.string cs,.int .i64 cn,.int .i64 ca,.int .i64 cb] 56):=⟨_,rfl⟩
  rw [← hW] at bX B0 ⊢
  have c0:=bX.cell 0
  have c1:=bX.cell 1
  have c2:=bX.cell 2
  have c3:=bX.cell 3
  have c4:=bX.cell 4
  simp at c0 c1 c2 c3 c4
  have g0:=(B0.cell (p:=⟨pb,0,none⟩) (by simpa using hps)).trans k0
  have cfA:=fun (u v : Value) (w : World)=>(show (callFunc 163 #[u,v]).run Tryz.prog w = .ok (.enter 163 #[u,v]) w by kernel_rfl)
  clear hW bX k0 k1
  go_region_law (refine Kit.step_call2 rfl 163 (.tmp 17) (.tmp 18) 23 56 rfl _ _ rfl rfl (cfA _ _ _) _ (HAd.out _ ?_) ?_;(first|exact B0|exact BLw);rintro e w9 ⟨m,i,e2,mv,hAI,rfl,hO,hbF⟩;refine ⟨_,rfl,?_⟩;have B9 : Below w.heap.size w w9:=(by first|exact belows B0 hbF B0.size|exact belows B0 (below_undrew hbF) B0.size);have hO9:=hO;have bx9:=(B9.block pb hps).trans HBx.out;have y0 : w9.frozen? ⟨pb,0,none⟩ = false:=(by simp [World.frozen?,bx9]);have y1 : w9.frozen? ⟨pb,1,none⟩ = false:=(by simp [World.frozen?,bx9]);have z0 : w9.cell? ⟨pb,0,none⟩ = some (.slice a l.length cap):=(by simp [World.cell?,bx9]);have z1 : w9.cell? ⟨pb,1,none⟩ = some (.int .i64 0):=(by simp [World.cell?,bx9]);have HO:=hid (L3.own_mono (base':=pb + 1) hO (Nat.succ_le_of_lt (Nat.lt_of_lt_of_le hps B0.size)));have HX9:=hid bx9;have HAI:=hid hAI;obtain ⟨ma,mc,rfl⟩:=L3.own_form hO;clear hO hO9 bx9 hAI hbF)
  all_goals go_wp2
  all_goals go_ret
  all_goals
   have hms:=ad_sz HAI.out (ad_nil HAI.out)
   refine ⟨m,i,e2,.inr ⟨rfl,HAI.out⟩,rfl,L3.grown_trans (L3.grown_trans (L3.grown_of_below B9 _) (L3.set_grown _ pb 0 _)) (L3.set_grown _ pb 1 _),⟨⟨_,two_set HX9.out _ _,fun W' k=>Kit.isS_of_owns (L3.owns_at (Kit.owns_grown (Kit.owns_grown HO.out (L3.set_grown _ pb 0 _) (Nat.lt_succ_self pb)) (L3.set_grown _ pb 1 _) (Nat.lt_succ_self pb)) (fun i h1 h2=>k.2 i h2 (.inr (by omega)))) (by have:=hms.1;omega)⟩,hms,hlo⟩⟩
 ·have hd : (er != 0) = true:=by simpa using he
  have HZ:=hid he
  clear he
  go_enter Tryz.func124,Tryz.ntmps124
  go_wp2
  go_ret
  exact ⟨l,0,er,.inl ⟨HZ.out,rfl,rfl,rfl⟩,rfl,GRw,HBd.out.below BLw⟩
theorem btext_any (lo pb : Nat) (l : List L3.Cp.C) (er : Int) (s : ByteArray) (w : World) (ht : L3.Tabs w) (h : Bd w lo pb l er) (hc : s.size ≤ 140737488355328) :
  Calls Tryz.prog 69 #[.pointer (some ⟨pb,0,none⟩),.string s] w (BdPost lo pb l er ⟨1,s,0,0,0⟩ w):=by
 have HA:=hid (fun W (k : Below w.heap.size w W)=>badd_any lo pb l er ⟨1,s,0,0,0⟩ W (ht.below k ht.size) (h.below k) hc)
 have HU:=hid (fun W=>utf8_any s W)
 unfold BdPost at HA ⊢
 clear ht h hc
 go_enter Tryz.func69,Tryz.ntmps69
 go_wp2_with (first
  | (go_at_call 94;refine (HU.out _).mono ?_;rintro e w1 ⟨rfl,hb1⟩)
  | (go_at_call 124;refine (HA.out _ hb1).mono ?_;rintro e w2 ⟨m,i,e2,hS,rfl,hg,hB⟩))
 go_ret
 exact ⟨m,i,e2,hS,rfl,L3.grown_trans (L3.grown_of_below hb1 _) hg,hB⟩
def BcPost (lo pb : Nat) (l : List L3.Cp.C) (er : Int) (s : ByteArray) (w : World) (e : Ending) (w' : World) : Prop:=∃ m i e2 m2 j e3,AdS l er ⟨1,s,0,0,0⟩ m i e2 ∧ AdS m e2 ⟨7,⟨#[]⟩,0,(i : Nat),0⟩ m2 j e3 ∧ e = .returned (.int .i64 (j : Nat)) ∧ w.grownBy w' (some pb) ∧ Bd w' lo pb m2 e3
theorem bclass_any (lo pb : Nat) (l : List L3.Cp.C) (er : Int) (s : ByteArray) (w : World) (ht : L3.Tabs w) (hp1 : 1 ≤ pb) (h : Bd w lo pb l er) (hc : s.size ≤ 140737488355328) :
  Calls Tryz.prog 70 #[.pointer (some ⟨pb,0,none⟩),.string s] w (BcPost lo pb l er s w):=by
 have HT:=hid (btext_any lo pb l er s w ht h hc)
 have HA:=hid (fun m e2 i W (k : w.grownBy W (some pb)) (hB : Bd W lo pb m e2)=>badd_any lo pb m e2 ⟨7,⟨#[]⟩,0,i,0⟩ W (tabs_grown ht hp1 k) hB (by show (⟨#[]⟩ : ByteArray).size ≤ _;decide))
 unfold BdPost at HT HA
 unfold L3.cC at HA
 unfold BcPost
 clear ht h hc hp1
 go_enter Tryz.func70,Tryz.ntmps70
 go_wp2_with (first
  | (go_at_call 69;refine HT.out.mono ?_;rintro e w1 ⟨m,i,e2,hS,rfl,hg,hB⟩)
  | (go_at_call 124;refine (HA.out _ _ _ _ hg hB).mono ?_;rintro e w2 ⟨m2,j,e3,hS2,rfl,hg2,hB2⟩))
 go_ret
 exact ⟨m,i,e2,m2,j,e3,hS,hS2,rfl,L3.grown_trans hg hg2,hB2⟩
end Go.Proofs.YtnojgiflgmnjlaaGreatDoor
namespace Go.Proofs.YtnojgiflgmnjlaaGreatDoor
open Go.RowKit
def NmAt (ss : List ByteArray) (k : Nat) (er : Int) : Prop:=∃ s,ss[k]? = some s ∧ er = L2.nameE (L2.Ds.bl s)
set_option maxHeartbeats 2000000 in
theorem firstS_any (ss : List ByteArray) (v : Value) (w : World) (hv : Kit.IsS 1 w v ss.length (ss.map fun s=>Value.string s)) :
  Calls Tryz.prog 67 #[v,.func (.func 68) #[] #[]] w fun e w'=>∃ er,Cf.FstR (NmAt ss) ss.length er ∧ e = .returned (.int .i64 er) ∧ Below w.heap.size w w':=by
 have HA:=hid (fun s W=>L2.className_any s W)
 have HV:=hid (fun W (k : Below w.heap.size w W)=>hv.below k (Nat.le_refl _))
 obtain ⟨a,cap,rfl⟩:=hv.len
 have HL:=hid hv.2.1
 clear hv
 go_enter Tryz.func67,Tryz.ntmps67
 go_wp2
 go_loopw [10] (fun i wr=>∃ k : Nat,k ≤ ss.length ∧ i = .int .i64 k ∧ Below w.heap.size w wr ∧ ∀ j,j < k → NmAt ss j 0) (fun i _=>ss.length - (intOf i).toNat)
 case atStart=>exact ⟨0,by omega,rfl,BLw,fun j hj=>by omega⟩
 case round =>
  obtain ⟨k,hk,rfl,hJ,hall⟩:=hrel
  have HAll:=hid hall
  have hsz:=HL.out
  have hzw:=hJ.size
  by_cases hlt : k < ss.length
  ·obtain ⟨s,hx⟩ : ∃ x,ss[k]? = some x:=⟨ss[k],List.getElem?_eq_getElem hlt⟩
   obtain ⟨b,o,cap',hv2,-,hbb,hc⟩:=(HV.out wr hJ).some (by omega)
   obtain ⟨rfl,-,rfl⟩:=Value.slice.inj hv2
   have c0:=hc k (.string s) (by rw [List.getElem?_map,hx];rfl)
   have hki : (k : Int) < (ss.length : Int):=by omega
   have HR0:=hid (show NmAt ss k (L2.nameE (L2.Ds.bl s)) from ⟨_,hx,rfl⟩)
   have HA1:=HA.out s
   obtain ⟨er,her⟩ : ∃ er,er = L2.nameE (L2.Ds.bl s):=⟨_,rfl⟩
   rw [← her] at HR0 HA1
   have HA2:=hid HA1
   clear hx hv2 hall HA1 her hc
   by_cases hz : er = 0
   ·subst hz
    go_wp2_with (go_at_call 68;refine (HA2.out _).mono ?_;rintro e W1 ⟨rfl,hb1⟩;have B1:=belows (B:=w.heap.size) (a:=w) BLw hb1 (by omega))
    go_roundw
    case rel=>exact ⟨k + 1,by omega,by go_num,B1,fun j hj=>by
     by_cases e : j = k
     ·subst e;exact HR0.out
     ·exact HAll.out j (by omega)⟩
    case measure=>simp [intOf];omega
   ·have hd : (er != 0) = true:=by simpa using hz
    have HZ:=hid hz
    clear hz
    go_wp2_with (go_at_call 68;refine (HA2.out _).mono ?_;rintro e W1 ⟨rfl,hb1⟩;have B1:=belows (B:=w.heap.size) (a:=w) BLw hb1 (by omega))
    go_ret
    exact ⟨_,Cf.FstR.at HAll.out hlt HR0.out HZ.out,rfl,B1⟩
  ·obtain rfl : k = ss.length:=by omega
   have hb:=hJ
   clear hall
   go_wp2
   go_ret
   exact ⟨0,Cf.FstR.all HAll.out,rfl,hb⟩
theorem two_names {a b : ByteArray} {er : Int} (h : Cf.FstR (NmAt [a,b]) 2 er) : er = if L2.nameE (L2.Ds.bl a) ≠ 0 then L2.nameE (L2.Ds.bl a) else L2.nameE (L2.Ds.bl b):=by
 rcases h with ⟨rfl,h⟩|⟨h0,k,hk,⟨i,hi,rfl⟩,h2⟩
 ·obtain ⟨i,hi,h1⟩:=h 0 (by omega)
  obtain ⟨j,hj,h2⟩:=h 1 (by omega)
  simp at hi hj
  subst hi hj
  rw [if_neg (by rw [← h1];decide),← h2]
 ·match k,hk with
  | 0,_ =>
   simp at hi
   subst hi
   rw [if_pos h0]
  | 1,_ =>
   simp at hi
   subst hi
   obtain ⟨j,hj,h1⟩:=h2 0 (by omega)
   simp at hj
   subst hj
   rw [if_neg (by rw [← h1];decide)]
def NwIs (a b : ByteArray) (c : Cf.Cl) (er : Int) : Prop :=
 if L2.nameE (L2.Ds.bl a) ≠ 0 then c = Cf.K0 ∧ er = L2.nameE (L2.Ds.bl a) else if L2.nameE (L2.Ds.bl b) ≠ 0 then c = Cf.K0 ∧ er = L2.nameE (L2.Ds.bl b) else
 ∃ m0 i0 e0 m1 i1 e1 m2 i2 e2 m3 i3 e3 m4 i4 e4,AdS [] 0 Cf.codeC m0 i0 e0 ∧ AdS m0 e0 ⟨1,a,0,0,0⟩ m1 i1 e1 ∧ AdS m1 e1 ⟨7,⟨#[]⟩,0,(i1 : Nat),0⟩ m2 i2 e2 ∧ AdS m2 e2 ⟨1,b,0,0,0⟩ m3 i3 e3 ∧ AdS m3 e3 ⟨7,⟨#[]⟩,0,(i3 : Nat),0⟩ m4 i4 e4 ∧
  (if e4 ≠ 0 then c = Cf.K0 ∧ er = e4 else c = ⟨0,52,m4,33,i2,i4,[],[]⟩ ∧ er = 0)
end Go.Proofs.YtnojgiflgmnjlaaGreatDoor
namespace Go.Proofs.YtnojgiflgmnjlaaGreatDoor
open Go.RowKit
theorem bd_new (w : World) (lo : Nat) (h : lo ≤ w.heap.size) : Bd (w.alloc (.cells #[.slice none 0 0,.int .i64 0] 95)) lo w.heap.size [] 0 :=
 ⟨⟨.slice none 0 0,L3.BX.new w _ _,fun W _=>⟨rfl,by simp,.inl ⟨rfl,none,0,rfl⟩⟩⟩,⟨by simp,fun x hx=>by cases hx⟩,h⟩
theorem bd_cells {w : World} {lo pb : Nat} {l : List L3.Cp.C} {er : Int} (h : Bd w lo pb l er) : ∃ a cap,w.cell? ⟨pb,0,none⟩ = some (.slice a l.length cap) ∧ w.cell? ⟨pb,1,none⟩ = some (.int .i64 er) ∧ ∀ W,Kx lo pb w W → Kit.IsS 5 W (.slice a l.length cap) l.length (l.flatMap L3.cL):=by
 obtain ⟨v,h1,h2⟩:=h.box
 obtain ⟨a,cap,rfl⟩:=(h2 w (Kx.refl _ _ _)).len
 exact ⟨a,cap,by simp [World.cell?,h1],by simp [World.cell?,h1],h2⟩
theorem Kx.alloc {lo pb : Nat} {a b : World} (h : Kx lo pb a b) (o : Obj) : Kx lo pb a (b.alloc o):=h.trans (Kx.below ((Below.refl _ _).alloc (Nat.le_refl _) _))
theorem Kx.set {lo pb r j : Nat} {a b : World} (h : Kx lo pb a b) (hr : lo ≤ r ∧ r ≤ pb) (u : Value) : Kx lo pb a (b.setCell ⟨r,j,none⟩ u):=h.trans (Kx.grown (L3.set_grown b r j u) hr.1 hr.2)
theorem nil_ms (w : World) : MsR w (.slice none 0 0) []:=⟨[],trivial,rfl,by simp,.inl ⟨rfl,none,0,rfl⟩⟩
theorem nwB {n : Nat} {w a b : World} {r : Nat} (h : Below n w a) (hg : a.grownBy b (some r)) (hr : n ≤ r ∧ n ≤ a.heap.size) : Below n w b:=h.grown hg hr.2 (fun k e=>by cases e;exact hr.1)
theorem name_len {s : ByteArray} (h : L2.nameE (L2.Ds.bl s) = 0) : s.size ≤ 140737488355328:=by
 unfold L2.nameE at h
 split at h
 ·cases h
 ·rename_i h1
  have : (L2.Ds.bl s).length = s.size:=L2.bl_len s
  omega
def NwPost (a b : ByteArray) (w : World) (e : Ending) (w' : World) : Prop :=
 ∃ c er vs,NwIs a b c er ∧ e = .returned (.tuple #[.agg vs,.int .i64 er]) ∧ ClR w' vs c ∧ PoolSz c.pool ∧ Below w.heap.size w w'
set_option maxHeartbeats 2000000 in
theorem new_any (a b : ByteArray) (w : World) (ht : L3.Tabs w) : Calls Tryz.prog 30 #[.string a,.string b] w (NwPost a b w):=by
 have HT:=hid ht
 have HFs:=hid (firstS_any [a,b] (.slice (some ⟨w.heap.size + 1,0,none⟩) 2 2) ((w.alloc (.cells #[.int .i64 0,.int .i64 0,.slice none 0 0,.int .i64 0,.int .i64 0,.int .i64 0,.slice none 0 0,.slice none 0 0] 26)).alloc (.cells #[.string a,.string b] 9))
  ⟨rfl,by simp,.inr ⟨w.heap.size + 1,0,2,rfl,Nat.le_refl _,by simp,fun i u hu=>by
   match i,hu with
   | 0,hu=>simp at hu;subst hu;simp [go_sem]
   | 1,hu=>simp at hu;subst hu;simp [go_sem]⟩⟩)
 clear ht
 by_cases hn : L2.nameE (L2.Ds.bl a) = 0 ∧ L2.nameE (L2.Ds.bl b) = 0
 ·have HLa:=hid (name_len hn.1)
  have HLb:=hid (name_len hn.2)
  have HNn:=hid hn
  clear hn
  go_enter Tryz.func30,Tryz.ntmps30
  go_wp2_with (first|(go_at_call 67;refine HFs.out.mono ?_;rintro e w1 ⟨er,hfs,rfl,hb1⟩;have HFS:=hid (two_names hfs);obtain ⟨bN,bSl,hzN1,B1⟩:=boxes2 hb1;have hzN : w.heap.size < w1.heap.size:=(by omega);(obtain ⟨n0,n1,n2,n3,n4,n5,n6,n7⟩:=bN.cells8;have f0:=bN.frozen 0;have f1:=bN.frozen 1;have f2:=bN.frozen 2;have f3:=bN.frozen 3;have f4:=bN.frozen 4;have f5:=bN.frozen 5;have f6:=bN.frozen 6;have f7:=bN.frozen 7);clear hb1 bSl hfs;by_cases hz : er = 0;all_goals (first|subst hz|(have hd : (er != 0) = true:=(by simpa using hz);have HZ:=hid hz;clear hz)))|(go_at_call 69;go_loud (have hB0:=bd_new w1 w.heap.size (by omega);have Ba : Below w.heap.size w (w1.alloc (.cells #[.slice none 0 0,.int .i64 0] 95)):=(B1.alloc (by omega) _);refine (btext_any w.heap.size w1.heap.size [] 0 Cf.codeS _ (HT.out.below Ba HT.out.size) hB0 (by decide)).mono ?_;rintro e W ⟨m0,i0,e0,hS0,rfl,hg,hB⟩;have HS0:=hid hS0;have bN:=L3.BX.grown (L3.BX.below bN ((Below.refl _ _).alloc (Nat.le_refl _) (.cells #[.slice none 0 0,.int .i64 0] 95)) bN.sz) hg (fun e=>by (have:=Option.some.inj e;omega));have B2 : Below w.heap.size w W:=nwB Ba hg (by (simp only [World.size_alloc]);omega);have HB:=hid hB;have hzW:=hB.lt;(obtain ⟨n0,n1,n2,n3,n4,n5,n6,n7⟩:=bN.cells8;have f0:=bN.frozen 0;have f1:=bN.frozen 1;have f2:=bN.frozen 2;have f3:=bN.frozen 3;have f4:=bN.frozen 4;have f5:=bN.frozen 5;have f6:=bN.frozen 6;have f7:=bN.frozen 7);clear hB hg hS0 hB0))|(go_at_call 70;have hT2:=HT.out.below B2 HT.out.size;have hz1 : 1 ≤ w1.heap.size:=(by have:=HT.out.size;omega);(first|(have _g:=i2;refine (bclass_any w.heap.size w1.heap.size m2 e2 b _ hT2 hz1 HB.out HLb.out).mono ?_;rintro e W ⟨m3,i3,e3,m4,i4,e4,hS3,hS4,rfl,hg,hB⟩;have HS3:=hid hS3;have HS4:=hid hS4;clear hS3 hS4)|(refine (bclass_any w.heap.size w1.heap.size m0 e0 a _ hT2 hz1 HB.out HLa.out).mono ?_;rintro e W ⟨m1,i1,e1,m2,i2,e2,hS1,hS2,rfl,hg,hB⟩;have HS1:=hid hS1;have HS2:=hid hS2;clear hS1 hS2));have bN:=L3.BX.grown bN hg (fun e=>by (have:=Option.some.inj e;omega));have hzq:=B2.size;have B2 : Below w.heap.size w W:=nwB B2 hg (by omega);have HB:=hid hB;have hzW:=hB.lt;(obtain ⟨n0,n1,n2,n3,n4,n5,n6,n7⟩:=bN.cells8;have f0:=bN.frozen 0;have f1:=bN.frozen 1;have f2:=bN.frozen 2;have f3:=bN.frozen 3;have f4:=bN.frozen 4;have f5:=bN.frozen 5;have f6:=bN.frozen 6;have f7:=bN.frozen 7);obtain ⟨ba,bc,hb0,hb1,hst⟩:=bd_cells HB.out;have HSt:=hid hst;clear hB hg hT2 hz1 hst;have hzA : w.heap.size < W.heap.size:=(by omega);(try (have _g:=i4;by_cases hy : e4 = 0;all_goals (first|subst hy|(have hd4 : (e4 != 0) = true:=(by simpa using hy);have HY:=hid hy;clear hy))))))
  ·have hn:=HNn.out
   refine bodyPost_ret (v:=.tuple #[.agg #[.int .i64 0,.int .i64 52,.slice ba m4.length bc,.int .i64 33,.int .i64 (i2 : Nat),.int .i64 (i4 : Nat),.slice none 0 0,.slice none 0 0],.int .i64 0]) (by simp [results,Tryz.results30,go_sem,n0,n1,n2,n3,n4,n5,n6,n7,World.cell?_alloc_past,hzA]) rfl ⟨⟨0,52,m4,33,i2,i4,[],[]⟩,0,_,?_,rfl,⟨_,_,_,rfl,?_,nil_ms _,nil_ms _⟩,HB.out.sz,BLw⟩
   ·unfold NwIs
    rw [if_neg (by rw [hn.1];decide),if_neg (by rw [hn.2];decide)]
    exact ⟨m0,i0,e0,m1,i1,e1,m2,i2,e2,m3,i3,e3,m4,i4,0,HS0.out,HS1.out,HS2.out,HS3.out,HS4.out,by rw [if_neg (by decide)];exact ⟨rfl,rfl⟩⟩
   ·refine HSt.out _ ?_
    have hr : w.heap.size ≤ w.heap.size ∧ w.heap.size ≤ w1.heap.size:=⟨Nat.le_refl _,by omega⟩
    first
     | (refine Kx.alloc ?_ _;(iterate 8 (refine Kx.set ?_ hr _));exact Kx.refl _ _ _)
     | ((iterate 8 (refine Kx.set ?_ hr _));exact Kx.alloc (Kx.refl _ _ _) _)
  ·have bN2:=bN.below (w':=W.alloc (.cells #[.int .i64 0,.int .i64 52,.slice none 0 0,.int .i64 33,.int .i64 (i2 : Nat),.int .i64 (i4 : Nat),.slice none 0 0,.slice none 0 0] 26)) ((Below.refl _ _).alloc (Nat.le_refl _) _) bN.sz
   have B3 : Below w.heap.size w (W.alloc (.cells #[.int .i64 0,.int .i64 52,.slice none 0 0,.int .i64 33,.int .i64 (i2 : Nat),.int .i64 (i4 : Nat),.slice none 0 0,.slice none 0 0] 26)):=B2.alloc (by omega) _
   have hb2:=(((Below.refl W.heap.size W).alloc (Nat.le_refl _) (.cells #[.int .i64 0,.int .i64 52,.slice none 0 0,.int .i64 33,.int .i64 (i2 : Nat),.int .i64 (i4 : Nat),.slice none 0 0,.slice none 0 0] 26)).cell (p:=⟨w1.heap.size,1,none⟩) (by simpa using hzW)).trans hb1
   obtain ⟨W6,hW6⟩ : ∃ W6,W6 = W.alloc (.cells #[.int .i64 0,.int .i64 52,.slice none 0 0,.int .i64 33,.int .i64 (i2 : Nat),.int .i64 (i4 : Nat),.slice none 0 0,.slice none 0 0] 26):=⟨_,rfl⟩
   rw [← hW6] at bN2 B3 hb2 ⊢
   have bN:=bN2
   (obtain ⟨n0,n1,n2,n3,n4,n5,n6,n7⟩:=bN.cells8;have f0:=bN.frozen 0;have f1:=bN.frozen 1;have f2:=bN.frozen 2;have f3:=bN.frozen 3;have f4:=bN.frozen 4;have f5:=bN.frozen 5;have f6:=bN.frozen 6;have f7:=bN.frozen 7)
   have hnw : ¬ w.heap.size = w1.heap.size:=by omega
   clear hW6 hb0 hb1
   go_region
   all_goals go_wp2
   all_goals
    have hn:=HNn.out
    refine bodyPost_ret (v:=.tuple #[.agg #[.int .i64 0,.int .i64 0,.slice none 0 0,.int .i64 0,.int .i64 0,.int .i64 0,.slice none 0 0,.slice none 0 0],.int .i64 e4]) (by simp [results,Tryz.results30,go_sem,n0,n1,n2,n3,n4,n5,n6,n7]) rfl ⟨_,e4,_,?_,rfl,k0_reads _,⟨by simp [Cf.K0],fun x hx=>by cases hx⟩,BLw⟩
    unfold NwIs
    rw [if_neg (by rw [hn.1];decide),if_neg (by rw [hn.2];decide)]
    exact ⟨m0,i0,e0,m1,i1,e1,m2,i2,e2,m3,i3,e3,m4,i4,e4,HS0.out,HS1.out,HS2.out,HS3.out,HS4.out,by rw [if_pos HY.out];exact ⟨rfl,rfl⟩⟩
  ·have hn:=HNn.out
   have h9:=HFS.out
   rw [if_neg (by rw [hn.1];decide)] at h9
   exact absurd (h9.trans hn.2) HZ.out
 ·have HNn:=hid hn
  clear hn
  go_enter Tryz.func30,Tryz.ntmps30
  go_wp2_with (go_at_call 67;refine HFs.out.mono ?_;rintro e w1 ⟨er,hfs,rfl,hb1⟩;have hfs:=two_names hfs;have hz : er ≠ 0:=(by intro e0;rw [e0] at hfs;by_cases ha : L2.nameE (L2.Ds.bl a) = 0;(·rw [if_neg (by rw [ha];decide)] at hfs;exact HNn.out ⟨ha,hfs.symm⟩);(·rw [if_pos ha] at hfs;exact ha hfs.symm));have HFS:=hid hfs;obtain ⟨bN,bSl,hzN1,B1⟩:=boxes2 hb1;have hzN : w.heap.size < w1.heap.size:=(by omega);(obtain ⟨n0,n1,n2,n3,n4,n5,n6,n7⟩:=bN.cells8;have f0:=bN.frozen 0;have f1:=bN.frozen 1;have f2:=bN.frozen 2;have f3:=bN.frozen 3;have f4:=bN.frozen 4;have f5:=bN.frozen 5;have f6:=bN.frozen 6;have f7:=bN.frozen 7);have hd : (er != 0) = true:=(by simpa using hz);have HZ:=hid hz;clear hb1 bSl hfs hz)
  refine bodyPost_ret (v:=.tuple #[.agg #[.int .i64 0,.int .i64 0,.slice none 0 0,.int .i64 0,.int .i64 0,.int .i64 0,.slice none 0 0,.slice none 0 0],.int .i64 er]) (by simp [results,Tryz.results30,go_sem,n0,n1,n2,n3,n4,n5,n6,n7]) rfl ⟨_,er,_,?_,rfl,k0_reads _,⟨by simp [Cf.K0],fun x hx=>by cases hx⟩,BLw⟩
  have h9:=HFS.out
  unfold NwIs
  by_cases ha : L2.nameE (L2.Ds.bl a) = 0
  ·rw [if_neg (by rw [ha];decide)] at h9 ⊢
   rw [if_pos (by rw [← h9];exact HZ.out)]
   exact ⟨rfl,h9⟩
  ·rw [if_pos ha] at h9 ⊢
   exact ⟨rfl,h9⟩
end Go.Proofs.YtnojgiflgmnjlaaGreatDoor
namespace Go.Proofs.YtnojgiflgmnjlaaGreatDoor
open Go.RowKit
set_option maxHeartbeats 1000000 in
theorem cloneMember_any (m : Cf.Mb) (cv hv : Value) (w : World) (hB : L3.Bs w.heap.size w cv m.code) (hH : Kit.IsS 4 w hv m.hs.length (m.hs.flatMap hL)) (hc : m.code.length ≤ 140737488355328) (hh : m.hs.length * 32 ≤ 140737488355328) :
  Calls Tryz.prog 78 #[mbV m cv hv] w fun e w'=>∃ cv' hv',e = .returned (mbV m cv' hv') ∧ OMb w' w.heap.size (mL m cv' hv') m ∧ Below w.heap.size w w':=by
 have HBc:=hid (fun W (k : Below w.heap.size w W)=>bclone_any m.code.length (m.code.map L3.bv) cv W (isS_of_bs ((hB.below k (Nat.le_refl _)).mono k.size) hc) (by omega) (ones_b m.code))
 have HHc:=hid (fun W (k : Below w.heap.size w W)=>hclone_any m.hs.length (m.hs.flatMap hL) hv W (hH.below k (Nat.le_refl _)) hh (ones_hs m.hs))
 unfold ClonePost at HBc HHc
 obtain ⟨xa,xc,rfl⟩:=hB.len
 obtain ⟨ya,yc,rfl⟩:=hH.len
 obtain ⟨ac,nm,ds,st,lc,co,hs9⟩:=m
 unfold mbV mL
 dsimp only at HBc HHc hc hh ⊢
 have HSz:=hid (And.intro hc hh)
 clear hB hH hc hh
 go_enter Tryz.func78,Tryz.ntmps78
 go_wp2_with (first
  | (go_at_call 129;refine (HBc.out _ BLw).mono ?_;rintro e w1 ⟨v1,rfl,o1,hb1⟩;obtain ⟨ca,cc,rfl⟩:=L3.own_form o1;obtain ⟨bM,bR,hz1,B1⟩:=boxes2 hb1;simp only [World.size_alloc] at o1;have O1:=hid o1;have BM:=hid bM;have BR:=hid bR;have m0:=bM.cell 0;have m1:=bM.cell 1;have m2:=bM.cell 2;have m3:=bM.cell 3;have m4:=bM.cell 4;have m5:=bM.cell 5;have m6:=bM.cell 6;have g0:=bM.frozen 5;have g1:=bM.frozen 6;simp at m0 m1 m2 m3 m4 m5 m6;clear hb1 bM bR o1)
  | (go_at_call 130;have Bx : Below w.heap.size w (w1.setCell ⟨w.heap.size,5,none⟩ (.slice ca co.length cc)):=BLw;refine (HHc.out _ Bx).mono ?_;rintro e w2 ⟨v2,rfl,o2,hb2⟩;obtain ⟨ha,hc,rfl⟩:=L3.own_form o2;have B2:=belows Bx hb2 Bx.size;have hz2:=hb2.size;simp only [World.size_setCell] at hz2 o2;have O2:=hid o2;have O1b:=hid (Kit.owns_below (Kit.owns_grown O1.out (L3.set_grown _ w.heap.size 5 _) (by omega)) hb2 (Nat.le_refl _));have bM:=(BM.out.set 5 (.slice ca co.length cc)).below hb2 (by simp only [World.size_setCell];omega);have bR:=(BR.out.grown (L3.set_grown w1 w.heap.size 5 (.slice ca co.length cc)) (fun e=>by (have:=Option.some.inj e;omega))).below hb2 (by simp only [World.size_setCell];omega);have m0:=bM.cell 0;have m1:=bM.cell 1;have m2:=bM.cell 2;have m3:=bM.cell 3;have m4:=bM.cell 4;have m5:=bM.cell 5;have m6:=bM.cell 6;have g0:=bM.frozen 5;have g1:=bM.frozen 6;simp at m0 m1 m2 m3 m4 m5 m6;obtain ⟨r0,r1,r2,r3,r4,r5,r6⟩:=bR.cells7;have f0:=bR.frozen 0;have f1:=bR.frozen 1;have f2:=bR.frozen 2;have f3:=bR.frozen 3;have f4:=bR.frozen 4;have f5:=bR.frozen 5;have f6:=bR.frozen 6;clear hb2 o2 bM bR))
 refine bodyPost_ret (v:=.agg #[.int .i64 ac,.int .i64 nm,.int .i64 ds,.int .i64 st,.int .i64 lc,.slice ca co.length cc,.slice ha hs9.length hc]) (by simp [results,Tryz.results78,go_sem,r0,r1,r2,r3,r4,r5,r6]) rfl ⟨_,_,rfl,⟨_,_,rfl,?_,?_,HSz.out.1,by have:=HSz.out.2;show hs9.length ≤ _;omega⟩,BLw⟩
 ·have hlt : w.heap.size + 1 < w.heap.size + 1 + 1:=by omega
  have hlt2 : w.heap.size < w.heap.size + 1 + 1:=by omega
  refine L3.own_mono (base:=w.heap.size + 1 + 1) ?_ (by omega)
  (iterate 7 (refine Kit.owns_grown ?_ (L3.set_grown _ _ _ _) hlt))
  exact Kit.owns_grown O1b.out (L3.set_grown _ _ _ _) hlt2
 ·have hlt : w.heap.size + 1 < w.heap.size + 1 + 1:=by omega
  have hlt2 : w.heap.size < w.heap.size + 1 + 1:=by omega
  refine L3.own_mono (base:=w.heap.size + 1 + 1) ?_ (by omega)
  (iterate 7 (refine Kit.owns_grown ?_ (L3.set_grown _ _ _ _) hlt))
  exact Kit.owns_grown (L3.own_mono O2.out (by omega)) (L3.set_grown _ _ _ _) hlt2
end Go.Proofs.YtnojgiflgmnjlaaGreatDoor
namespace Go.Proofs.YtnojgiflgmnjlaaGreatDoor
open Go.RowKit
theorem owns_set {w : World} {base : Nat} {e : TypeId} {size g n cap : Nat} {xs : List Value} (h : w.ownsRow base e size (.slice (some ⟨g,0,none⟩) n cap) n xs) (i : Nat) (u : Value) :
  (w.setCell ⟨g,i,none⟩ u).ownsRow base e size (.slice (some ⟨g,0,none⟩) n cap) n (xs.set i u):=by
 refine ⟨by rw [List.length_set];exact h.1,?_⟩
 rcases h.2 with ⟨h2,-⟩|⟨g',cap',cur,hv,hg,hh,h1,h2,h3,h4⟩
 ·cases h2
 ·obtain ⟨e1,-,rfl⟩:=Value.slice.inj hv
  obtain rfl : g = g':=by simpa using e1
  refine .inr ⟨g,cap,cur.setIfInBounds i u,rfl,hg,?_,h1,h2,by rw [Array.size_setIfInBounds];exact h3,?_⟩
  ·obtain ⟨hlt,hk⟩:=Array.getElem?_eq_some_iff.1 hh
   show (w.heap.modify g _)[g]? = _
   rw [Array.getElem?_eq_getElem (by rw [Array.size_modify];exact hlt),Array.getElem_modify_self,hk]
   rfl
  ·rw [Array.toList_setIfInBounds,← h4]
   exact List.take_set
theorem set7 {a0 a1 a2 a3 a4 a5 a6 : Value} : ∀ {rs : List (List Value)} {k : Nat},(∀ r ∈ rs,r.length = 7) → k < rs.length →
  (((((((rs.flatten.set (k * 7) a0).set (k * 7 + 1) a1).set (k * 7 + 2) a2).set (k * 7 + 3) a3).set (k * 7 + 4) a4).set (k * 7 + 5) a5).set (k * 7 + 6) a6) = (rs.set k [a0,a1,a2,a3,a4,a5,a6]).flatten
 | [],k,_,hk=>by simp at hk
 | r :: rs,0,h,_=>by
  have hr:=h r (by simp)
  match r,hr with
  | [x0,x1,x2,x3,x4,x5,x6],_=>simp
 | r :: rs,k + 1,h,hk=>by
  have hr:=h r (by simp)
  have ih:=set7 (a0:=a0) (a1:=a1) (a2:=a2) (a3:=a3) (a4:=a4) (a5:=a5) (a6:=a6) (rs:=rs) (k:=k) (fun x hx=>h x (by simp [hx])) (by simpa using hk)
  have hs : ∀ (l : List Value) (j : Nat) (u : Value),(r ++ l).set ((k + 1) * 7 + j) u = r ++ l.set (k * 7 + j) u:=by
   intro l j u
   rw [List.set_append,if_neg (by omega),hr]
   congr 2
   omega
  have hs0 : ∀ (l : List Value) (u : Value),(r ++ l).set ((k + 1) * 7) u = r ++ l.set (k * 7) u:=fun l u=>hs l 0 u
  rw [List.flatten_cons,hs0,hs,hs,hs,hs,hs,hs,ih]
  simp
def Half (w0 w : World) (base : Nat) (ms : List Cf.Mb) (k : Nat) (rs : List (List Value)) : Prop:=rs.length = ms.length ∧ ∀ j r m,rs[j]? = some r → ms[j]? = some m → (j < k → OMb w base r m) ∧ (k ≤ j → r.length = 7 ∧ MbR w0 r m)
theorem Half.lens {w0 w : World} {base : Nat} {ms : List Cf.Mb} {k : Nat} {rs : List (List Value)} (h : Half w0 w base ms k rs) : ∀ r ∈ rs,r.length = 7:=by
 intro r hr
 obtain ⟨j,hj⟩:=List.mem_iff_getElem?.1 hr
 have hlt : j < rs.length:=(List.getElem?_eq_some_iff.1 hj).1
 have hm : ms[j]? = some (ms[j]'(by rw [← h.1];exact hlt)):=List.getElem?_eq_getElem _
 by_cases e : j < k
 ·exact ((h.2 j r _ hj hm).1 e).len
 ·exact ((h.2 j r _ hj hm).2 (by omega)).1
theorem half_all {w0 w : World} {base : Nat} : ∀ {ms : List Cf.Mb} {rs : List (List Value)},Half w0 w base ms ms.length rs → All2 (OMb w base) rs ms
 | [],[],_=>trivial
 | m :: ms,r :: rs,h=>by
  refine ⟨(h.2 0 r m rfl rfl).1 (by simp),half_all (w0:=w0) ⟨by simpa using h.1,fun j x y hx hy=>⟨fun hj=>(h.2 (j + 1) x y (by simpa using hx) (by simpa using hy)).1 (by simpa using hj),fun hj=>?_⟩⟩⟩
  have:=(List.getElem?_eq_some_iff.1 hy).1
  omega
 | [],_ :: _,h=>by have:=h.1;simp at this
 | _ :: _,[],h=>by have:=h.1;simp at this
theorem half_new {w0 w : World} {base : Nat} : ∀ {ms : List Cf.Mb} {rs : List (List Value)},MsC w0 rs ms → Half w0 w base ms 0 rs
 | [],[],_=>⟨rfl,fun j r m h=>by simp at h⟩
 | m :: ms,r :: rs,h=>by
  obtain ⟨h1,h2⟩:=half_new (w:=w) (base:=base) h.2
  refine ⟨by simp [h1],fun j x y hx hy=>⟨fun hj=>by omega,fun _=>?_⟩⟩
  match j,hx,hy with
  | 0,hx,hy =>
   simp at hx hy
   subst hx hy
   exact ⟨h.1.len,h.1⟩
  | j + 1,hx,hy=>exact (h2 j x y (by simpa using hx) (by simpa using hy)).2 (Nat.zero_le _)
 | [],_ :: _,h=>h.elim
 | _ :: _,[],h=>h.elim
end Go.Proofs.YtnojgiflgmnjlaaGreatDoor
