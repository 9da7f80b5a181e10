/- Own texts for the claim, part 24. -/
import Derived.Test.YtnojgiflgmnjlaaGreatDoorZM23
set_option maxRecDepth 100000
namespace Go.Proofs.YtnojgiflgmnjlaaGreatDoor
open Go.RowKit
namespace Cf
theorem cl0 {c : Cl} {er : Int} (h : HdIs c er) (hz : er ≠ 0) : ClIs c er:=FstR.at (k:=0) (fun j hj=>by omega) (by decide) h hz
theorem cl1 {c : Cl} {er : Int} (h0 : HdIs c 0) (h : FstR (FdIs c.pool c.fs) c.fs.length er) (hz : er ≠ 0) : ClIs c er:=FstR.at (k:=1) (fun j hj=>by
 obtain rfl : j = 0:=by omega
 exact h0) (by decide) h hz
theorem cl2 {c : Cl} {er : Int} (h0 : HdIs c 0) (h1 : FstR (FdIs c.pool c.fs) c.fs.length 0) (h : FstR (MeIs c.pool c.ms) c.ms.length er) (hz : er ≠ 0) : ClIs c er:=FstR.at (k:=2) (fun j hj=>by
 match j,hj with
 | 0,_=>exact h0
 | 1,_=>exact h1) (by decide) h hz
theorem cl3 {c : Cl} {er : Int} (h0 : HdIs c 0) (h1 : FstR (FdIs c.pool c.fs) c.fs.length 0) (h2 : FstR (MeIs c.pool c.ms) c.ms.length 0) (h : CnIs c er) : ClIs c er:=by
 by_cases hz : er = 0
 ·subst hz
  exact FstR.all fun j hj=>by
   match j,hj with
   | 0,_=>exact h0
   | 1,_=>exact h1
   | 2,_=>exact h2
   | 3,_=>exact h
 ·exact FstR.at (k:=3) (fun j hj=>by
   match j,hj with
   | 0,_=>exact h0
   | 1,_=>exact h1
   | 2,_=>exact h2) (by decide) h hz
end Cf
set_option maxHeartbeats 4000000 in
theorem rcheck04_any (c : Cf.Cl) (vs : Array Value) (w : World) (h : ClR w vs c) (hs : ∀ x ∈ c.pool,x.s.size ≤ 140737488355328 ∧ L3.I6 x.n) :
  Calls Tryz.prog 18 #[.agg vs] w fun e w'=>∃ er,Cf.ClIs c er ∧ e = .returned (.int .i64 er) ∧ Below w.heap.size w w':=by
 have HV0:=fun W=>rversion_any c.mi c.ma W
 have HT0:=fun W (q : Below w.heap.size w W)=>rclass_any c c.th vs W (h.below q (Nat.le_refl _))
 have HU0:=fun W (q : Below w.heap.size w W)=>rclass_any c c.su vs W (h.below q (Nat.le_refl _))
 have HFd:=hid (fun (k : Nat) m (hk : c.fs[k]? = some m) W (q : Below w.heap.size w W)=>(rfieldAt_any c vs k m W (h.below q (Nat.le_refl _)) hk).mono (R':=fun e w'=>∃ er,Cf.FdIs c.pool c.fs k er ∧ e = .returned (.int .i64 er) ∧ Below W.heap.size W w') fun e w' ⟨he,hb⟩=>⟨_,⟨m,hk,rfl⟩,he,hb⟩)
 have HMe:=hid (fun (k : Nat) m (hk : c.ms[k]? = some m) W (q : Below w.heap.size w W)=>(rmethodAt_any c vs k m W (h.below q (Nat.le_refl _)) hk).mono (R':=fun e w'=>∃ er,Cf.MeIs c.pool c.ms k er ∧ e = .returned (.int .i64 er) ∧ Below W.heap.size W w') fun e w' ⟨er,h1,he,hb⟩=>⟨er,⟨m,hk,h1⟩,he,hb⟩)
 obtain ⟨pv,fv,mv,rfl,hp,hf,hm⟩:=h
 have HP:=hid (fun W (q : Below w.heap.size w W)=>L3.rcheck_any c.pool pv W (hp.below q (Nat.le_refl _)) hs)
 have HCo:=hid (fun W (q : Below w.heap.size w W)=>rcodes_any c.pool pv W (hp.below q (Nat.le_refl _)))
 have hfl:=hf.size
 have hml:=hm.size
 obtain ⟨pa,pc,rfl⟩:=hp.len
 obtain ⟨fa,fc,rfl⟩:=hf.len
 obtain ⟨ma,mc,rfl⟩:=hm.len
 have HH0:=fun er pk (h1 : L3.CkIs c.pool pk) h2 (hv : ¬ Cf.verB c.mi c.ma = false)=>(show Cf.HdIs c er from by
  unfold Cf.HdIs
  rw [if_neg hv]
  exact ⟨pk,h1,h2⟩)
 have HH1:=fun er (hv : Cf.verB c.mi c.ma = false) (h : er = 41)=>(show Cf.HdIs c er from by
  unfold Cf.HdIs
  rw [if_pos hv,h])
 have CL0:=hid (fun er=>@Cf.cl0 c er)
 have CL1:=hid (fun er=>@Cf.cl1 c er)
 have CL2:=hid (fun er=>@Cf.cl2 c er)
 have CL3:=hid (fun er=>@Cf.cl3 c er)
 have hCn : Cf.CnIs c (if decide (Cf.cix c.pool ≠ 0) = false ∧ 0 < c.ms.length then 43 else 0):=⟨_,_,Cf.cix_fi c.pool,rfl⟩
 obtain ⟨vb,hvb⟩ : ∃ b,b = Cf.verB c.mi c.ma:=⟨_,rfl⟩
 rw [← hvb] at HV0 HH0 HH1
 have hacc0 : Cf.accB 33 c.ac = (bits .andNot .i64 c.ac 33 != 0):=rfl
 obtain ⟨acc,hacc⟩ : ∃ b,b = Cf.accB 33 c.ac:=⟨_,rfl⟩
 rw [← hacc] at HH0 hacc0
 obtain ⟨t,ht⟩ : ∃ b,b = Cf.claE c.pool c.th:=⟨_,rfl⟩
 rw [← ht] at HT0 HH0
 obtain ⟨u,hu⟩ : ∃ b,b = Cf.claE c.pool c.su:=⟨_,rfl⟩
 rw [← hu] at HU0 HH0
 obtain ⟨cx,hcx⟩ : ∃ n,n = Cf.cix c.pool:=⟨_,rfl⟩
 rw [← hcx] at HCo hCn
 have HCn:=hid hCn
 have HV:=hid HV0
 have HT:=hid HT0
 have HU:=hid HU0
 have hacc1:=hacc0.symm
 clear hp hf hm hs hvb hacc ht hu hcx hCn HV0 HT0 HU0 hacc0
 cases vb with
 | false =>
  have HX:=hid (HH1 41 rfl rfl)
  clear HH0 HH1
  (go_enter Tryz.func18,Tryz.ntmps18;go_wp2_with (first|(go_at_call 38;refine (HV.out _).mono ?_;rintro e w' ⟨rfl,rfl⟩)|(go_at_call 57;refine (HP.out _ BLw).mono ?_;rintro e w1 ⟨pk,hck,rfl,hb1⟩;obtain ⟨bC,hzC,B1⟩:=belows1 hb1;(obtain ⟨q0,q1,q2,q3,q4,q5,q6,q7⟩:=bC.cells8);have HCK:=hid hck;have BC1:=hid bC;have HB1:=hid B1;clear hb1 bC B1 hck;by_cases hz : pk = 0;all_goals (first|(subst hz)|(have hd : (pk != 0) = true:=(by simpa using hz);have HZ:=hid hz;clear hz)))|(go_at_call 58;first|((with_reducible refine (HT.out _ ?_).mono ?_);exact HB1.out;rintro e w2 ⟨rfl,hb2⟩;have HB2:=hid (belows HB1.out hb2 HB1.out.size);have bC:=BC1.out.below hb2 BC1.out.sz;have BC2:=hid bC;clear q0 q1 q2 q3 q4 q5 q6 q7;(obtain ⟨q0,q1,q2,q3,q4,q5,q6,q7⟩:=bC.cells8);clear hb2 bC)|((with_reducible refine (HU.out _ ?_).mono ?_);exact HB2.out;rintro e w3 ⟨rfl,hb3⟩;have HB3:=hid (belows HB2.out hb3 HB2.out.size);have bC:=BC2.out.below hb3 BC2.out.sz;have BC3:=hid bC;clear q0 q1 q2 q3 q4 q5 q6 q7;(obtain ⟨q0,q1,q2,q3,q4,q5,q6,q7⟩:=bC.cells8);clear hb3 bC))))
  go_ret
  exact ⟨41,CL0.out 41 HX.out (by decide),rfl,BLw⟩
 | true =>
  have HH:=hid (fun er pk h1 h2=>HH0 er pk h1 h2 (by decide))
  clear HH0 HH1
  cases acc with
  | true =>
   (go_enter Tryz.func18,Tryz.ntmps18;go_wp2_with (first|(go_at_call 38;refine (HV.out _).mono ?_;rintro e w' ⟨rfl,rfl⟩)|(go_at_call 57;refine (HP.out _ BLw).mono ?_;rintro e w1 ⟨pk,hck,rfl,hb1⟩;obtain ⟨bC,hzC,B1⟩:=belows1 hb1;(obtain ⟨q0,q1,q2,q3,q4,q5,q6,q7⟩:=bC.cells8);have HCK:=hid hck;have BC1:=hid bC;have HB1:=hid B1;clear hb1 bC B1 hck;by_cases hz : pk = 0;all_goals (first|(subst hz)|(have hd : (pk != 0) = true:=(by simpa using hz);have HZ:=hid hz;clear hz)))|(go_at_call 58;first|((with_reducible refine (HT.out _ ?_).mono ?_);exact HB1.out;rintro e w2 ⟨rfl,hb2⟩;have HB2:=hid (belows HB1.out hb2 HB1.out.size);have bC:=BC1.out.below hb2 BC1.out.sz;have BC2:=hid bC;clear q0 q1 q2 q3 q4 q5 q6 q7;(obtain ⟨q0,q1,q2,q3,q4,q5,q6,q7⟩:=bC.cells8);clear hb2 bC)|((with_reducible refine (HU.out _ ?_).mono ?_);exact HB2.out;rintro e w3 ⟨rfl,hb3⟩;have HB3:=hid (belows HB2.out hb3 HB2.out.size);have bC:=BC2.out.below hb3 BC2.out.sz;have BC3:=hid bC;clear q0 q1 q2 q3 q4 q5 q6 q7;(obtain ⟨q0,q1,q2,q3,q4,q5,q6,q7⟩:=bC.cells8);clear hb3 bC))))
   ·go_ret
    exact ⟨42,CL0.out 42 (HH.out 42 0 HCK.out (by rw [if_neg (by decide),if_pos (by decide)])) (by decide),rfl,HB1.out⟩
   ·(go_ret;exact ⟨pk,CL0.out pk (HH.out pk pk HCK.out (by rw [if_pos HZ.out])) HZ.out,rfl,HB1.out⟩)
  | false =>
   by_cases h1 : t = 0
   ·subst h1
    by_cases h2 : u = 0
    ·subst h2
     by_cases h3 : 256 < c.fs.length ∨ 256 < c.ms.length
     ·by_cases h4 : 256 < c.fs.length
      ·have d1 : decide (256 < (c.fs.length : Int)) = true:=by simp;omega
       have H3:=hid h3
       clear h3
       (go_enter Tryz.func18,Tryz.ntmps18;go_wp2_with (first|(go_at_call 38;refine (HV.out _).mono ?_;rintro e w' ⟨rfl,rfl⟩)|(go_at_call 57;refine (HP.out _ BLw).mono ?_;rintro e w1 ⟨pk,hck,rfl,hb1⟩;obtain ⟨bC,hzC,B1⟩:=belows1 hb1;(obtain ⟨q0,q1,q2,q3,q4,q5,q6,q7⟩:=bC.cells8);have HCK:=hid hck;have BC1:=hid bC;have HB1:=hid B1;clear hb1 bC B1 hck;by_cases hz : pk = 0;all_goals (first|(subst hz)|(have hd : (pk != 0) = true:=(by simpa using hz);have HZ:=hid hz;clear hz)))|(go_at_call 58;first|((with_reducible refine (HT.out _ ?_).mono ?_);exact HB1.out;rintro e w2 ⟨rfl,hb2⟩;have HB2:=hid (belows HB1.out hb2 HB1.out.size);have bC:=BC1.out.below hb2 BC1.out.sz;have BC2:=hid bC;clear q0 q1 q2 q3 q4 q5 q6 q7;(obtain ⟨q0,q1,q2,q3,q4,q5,q6,q7⟩:=bC.cells8);clear hb2 bC)|((with_reducible refine (HU.out _ ?_).mono ?_);exact HB2.out;rintro e w3 ⟨rfl,hb3⟩;have HB3:=hid (belows HB2.out hb3 HB2.out.size);have bC:=BC2.out.below hb3 BC2.out.sz;have BC3:=hid bC;clear q0 q1 q2 q3 q4 q5 q6 q7;(obtain ⟨q0,q1,q2,q3,q4,q5,q6,q7⟩:=bC.cells8);clear hb3 bC))))
       ·go_ret
        exact ⟨3,CL0.out 3 (HH.out 3 0 HCK.out (by rw [if_neg (by decide),if_neg (by decide),if_neg (by decide),if_neg (by decide),if_pos H3.out])) (by decide),rfl,HB3.out⟩
       ·(go_ret;exact ⟨pk,CL0.out pk (HH.out pk pk HCK.out (by rw [if_pos HZ.out])) HZ.out,rfl,HB1.out⟩)
      ·have d1 : decide (256 < (c.fs.length : Int)) = false:=by simp;omega
       have d2 : decide (256 < (c.ms.length : Int)) = true:=by simp;omega
       have H3:=hid h3
       clear h3
       (go_enter Tryz.func18,Tryz.ntmps18;go_wp2_with (first|(go_at_call 38;refine (HV.out _).mono ?_;rintro e w' ⟨rfl,rfl⟩)|(go_at_call 57;refine (HP.out _ BLw).mono ?_;rintro e w1 ⟨pk,hck,rfl,hb1⟩;obtain ⟨bC,hzC,B1⟩:=belows1 hb1;(obtain ⟨q0,q1,q2,q3,q4,q5,q6,q7⟩:=bC.cells8);have HCK:=hid hck;have BC1:=hid bC;have HB1:=hid B1;clear hb1 bC B1 hck;by_cases hz : pk = 0;all_goals (first|(subst hz)|(have hd : (pk != 0) = true:=(by simpa using hz);have HZ:=hid hz;clear hz)))|(go_at_call 58;first|((with_reducible refine (HT.out _ ?_).mono ?_);exact HB1.out;rintro e w2 ⟨rfl,hb2⟩;have HB2:=hid (belows HB1.out hb2 HB1.out.size);have bC:=BC1.out.below hb2 BC1.out.sz;have BC2:=hid bC;clear q0 q1 q2 q3 q4 q5 q6 q7;(obtain ⟨q0,q1,q2,q3,q4,q5,q6,q7⟩:=bC.cells8);clear hb2 bC)|((with_reducible refine (HU.out _ ?_).mono ?_);exact HB2.out;rintro e w3 ⟨rfl,hb3⟩;have HB3:=hid (belows HB2.out hb3 HB2.out.size);have bC:=BC2.out.below hb3 BC2.out.sz;have BC3:=hid bC;clear q0 q1 q2 q3 q4 q5 q6 q7;(obtain ⟨q0,q1,q2,q3,q4,q5,q6,q7⟩:=bC.cells8);clear hb3 bC))))
       ·go_ret
        exact ⟨3,CL0.out 3 (HH.out 3 0 HCK.out (by rw [if_neg (by decide),if_neg (by decide),if_neg (by decide),if_neg (by decide),if_pos H3.out])) (by decide),rfl,HB3.out⟩
       ·(go_ret;exact ⟨pk,CL0.out pk (HH.out pk pk HCK.out (by rw [if_pos HZ.out])) HZ.out,rfl,HB1.out⟩)
     ·have d1 : decide (256 < (c.fs.length : Int)) = false:=by simp;omega
      have d2 : decide (256 < (c.ms.length : Int)) = false:=by simp;omega
      have H3:=hid h3
      clear h3
      (go_enter Tryz.func18,Tryz.ntmps18;go_wp2_with (first|(go_at_call 38;refine (HV.out _).mono ?_;rintro e w' ⟨rfl,rfl⟩)|(go_at_call 57;refine (HP.out _ BLw).mono ?_;rintro e w1 ⟨pk,hck,rfl,hb1⟩;obtain ⟨bC,hzC,B1⟩:=belows1 hb1;(obtain ⟨q0,q1,q2,q3,q4,q5,q6,q7⟩:=bC.cells8);have HCK:=hid hck;have BC1:=hid bC;have HB1:=hid B1;clear hb1 bC B1 hck;by_cases hz : pk = 0;all_goals (first|(subst hz)|(have hd : (pk != 0) = true:=(by simpa using hz);have HZ:=hid hz;clear hz)))|(go_at_call 58;first|((with_reducible refine (HT.out _ ?_).mono ?_);exact HB1.out;rintro e w2 ⟨rfl,hb2⟩;have HB2:=hid (belows HB1.out hb2 HB1.out.size);have bC:=BC1.out.below hb2 BC1.out.sz;have BC2:=hid bC;clear q0 q1 q2 q3 q4 q5 q6 q7;(obtain ⟨q0,q1,q2,q3,q4,q5,q6,q7⟩:=bC.cells8);clear hb2 bC)|((with_reducible refine (HU.out _ ?_).mono ?_);exact HB2.out;rintro e w3 ⟨rfl,hb3⟩;have HB3:=hid (belows HB2.out hb3 HB2.out.size);have bC:=BC2.out.below hb3 BC2.out.sz;have BC3:=hid bC;clear q0 q1 q2 q3 q4 q5 q6 q7;(obtain ⟨q0,q1,q2,q3,q4,q5,q6,q7⟩:=bC.cells8);clear hb3 bC))))
      rotate_left 1
      ·(go_ret;exact ⟨pk,CL0.out pk (HH.out pk pk HCK.out (by rw [if_pos HZ.out])) HZ.out,rfl,HB1.out⟩)
      have HX:=hid (HH.out 0 0 HCK.out (by rw [if_neg (by decide),if_neg (by decide),if_neg (by decide),if_neg (by decide),if_neg H3.out]))
      clear HH H3 HCK BC1 BC2 HB1 HB2 q0 q1 q2 q3 q4 q5 q6 q7 d1 d2
      go_loopw [6] (fun i wr=>∃ k : Nat,k ≤ c.fs.length ∧ i = .int .i64 k ∧ Below w3.heap.size w3 wr ∧ Hid (∀ j,j < k → Cf.FdIs c.pool c.fs j 0)) (fun i _=>c.fs.length - (intOf i).toNat)
      case atStart=>exact ⟨0,Nat.zero_le _,rfl,Below.refl _ _,fun j hj=>by omega⟩
      case round =>
       obtain ⟨k,hk,rfl,hbl,HAll⟩:=hrel
       have HJ:=hid hbl
       have hBr : Below w.heap.size w wr:=belows HB3.out hbl HB3.out.size
       have bC:=BC3.out.below hbl BC3.out.sz
       (obtain ⟨q0,q1,q2,q3,q4,q5,q6,q7⟩:=bC.cells8)
       by_cases hlt : k < c.fs.length
       ·obtain ⟨m,hx⟩ : ∃ x,c.fs[k]? = some x:=⟨c.fs[k],List.getElem?_eq_getElem hlt⟩
        have i1 : (k : Int) < (c.fs.length : Int):=by omega
        have HF:=hid (HFd.out k m hx wr hBr)
        clear hx bC hbl
        go_wp2_with (go_at_call 59;refine HF.out.mono ?_;rintro e w4 ⟨er,hR,rfl,hb4⟩;have HR:=hid hR;have HB4:=hid hb4;clear hb4;by_cases hz : er = 0;all_goals (first|(subst hz;clear hR)|(have hd : (er != 0) = true:=(by simpa using hz);have HZ:=hid hz;clear hz hR)))
        ·go_roundw
         case rel=>exact ⟨k + 1,by omega,by go_num,belows HJ.out HB4.out HJ.out.size,fun j hj=>by
          by_cases e : j = k
          ·subst e;exact HR.out
          ·exact HAll.out j (by omega)⟩
         case measure=>simp [intOf];omega
        ·go_ret
         exact ⟨er,CL1.out er HX.out (Cf.FstR.at HAll.out hlt HR.out HZ.out) HZ.out,rfl,belows hBr HB4.out hBr.size⟩
       ·obtain rfl : k = c.fs.length:=by omega
        have hki : ¬ ((c.fs.length : Int) < (c.fs.length : Int)):=by omega
        have HFA:=hid (Cf.FstR.all HAll.out)
        clear q0 q1 q2 q3 q4 q5 q6 bC hbl HAll hlt hk
        have bC:=BC3.out.below HJ.out BC3.out.sz
        (obtain ⟨q0,q1,q2,q3,q4,q5,q6,q7⟩:=bC.cells8)
        go_wp2_with fail
        go_simp
        obtain ⟨wo,rfl⟩ : ∃ wo,wo = wr:=⟨_,rfl⟩
        clear q0 q1 q2 q3 q4 q5 q6 q7 bC
        go_loopw [8] (fun i wr=>∃ k : Nat,k ≤ c.ms.length ∧ i = .int .i64 k ∧ Below w3.heap.size w3 wr ∧ Hid (∀ j,j < k → Cf.MeIs c.pool c.ms j 0)) (fun i _=>c.ms.length - (intOf i).toNat)
        case atStart=>exact ⟨0,Nat.zero_le _,rfl,HJ.out,fun j hj=>by omega⟩
        case round =>
         obtain ⟨k,hk,rfl,hbl,HAll⟩:=hrel
         have HJ2:=hid hbl
         have hBr : Below w.heap.size w wr:=belows HB3.out hbl HB3.out.size
         have bC:=BC3.out.below hbl BC3.out.sz
         (obtain ⟨q0,q1,q2,q3,q4,q5,q6,q7⟩:=bC.cells8)
         by_cases hlt : k < c.ms.length
         ·obtain ⟨m,hx⟩ : ∃ x,c.ms[k]? = some x:=⟨c.ms[k],List.getElem?_eq_getElem hlt⟩
          have i1 : (k : Int) < (c.ms.length : Int):=by omega
          have HF:=hid (HMe.out k m hx wr hBr)
          clear hx bC hbl
          go_wp2_with (go_at_call 60;refine HF.out.mono ?_;rintro e w4 ⟨er,hR,rfl,hb4⟩;have HR:=hid hR;have HB4:=hid hb4;clear hb4;by_cases hz : er = 0;all_goals (first|(subst hz;clear hR)|(have hd : (er != 0) = true:=(by simpa using hz);have HZ:=hid hz;clear hz hR)))
          ·go_roundw
           case rel=>exact ⟨k + 1,by omega,by go_num,belows HJ2.out HB4.out HJ2.out.size,fun j hj=>by
            by_cases e : j = k
            ·subst e;exact HR.out
            ·exact HAll.out j (by omega)⟩
           case measure=>simp [intOf];omega
          ·go_ret
           exact ⟨er,CL2.out er HX.out HFA.out (Cf.FstR.at HAll.out hlt HR.out HZ.out) HZ.out,rfl,belows hBr HB4.out hBr.size⟩
         ·obtain rfl : k = c.ms.length:=by omega
          have hki : ¬ ((c.ms.length : Int) < (c.ms.length : Int)):=by omega
          have HMA:=hid (Cf.FstR.all HAll.out)
          have HC2:=hid (HCo.out wr hBr)
          clear HAll bC hbl
          by_cases h0 : 0 < c.ms.length
          ·have d3 : decide (0 < (c.ms.length : Int)) = true:=decide_eq_true (by omega)
           have d3' : decide (0 < c.ms.length) = true:=decide_eq_true h0
           by_cases h5 : cx = 0
           ·subst h5
            have HC3:=hid (CL3.out 43 HX.out HFA.out HMA.out (by have:=HCn.out;rwa [if_pos ⟨by decide,h0⟩] at this))
            clear h0
            go_wp2_with (go_at_call 50;refine HC2.out.mono ?_;rintro e w5 ⟨rfl,hb5⟩)
            go_ret
            exact ⟨43,HC3.out,rfl,belows hBr hb5 hBr.size⟩
           ·have d4 : ((cx : Int) == 0) = false:=by simp;omega
            have HC3:=hid (CL3.out 0 HX.out HFA.out HMA.out (by have:=HCn.out;rwa [if_neg (by rintro ⟨h,-⟩;simp at h;exact h5 h)] at this))
            clear h0 h5
            go_wp2_with (go_at_call 50;refine HC2.out.mono ?_;rintro e w5 ⟨rfl,hb5⟩)
            go_ret
            exact ⟨0,HC3.out,rfl,belows hBr hb5 hBr.size⟩
          ·have d3 : decide (0 < (c.ms.length : Int)) = false:=decide_eq_false (by omega)
           have d3' : decide (0 < c.ms.length) = false:=decide_eq_false h0
           have HC3:=hid (CL3.out 0 HX.out HFA.out HMA.out (by have:=HCn.out;rwa [if_neg (by rintro ⟨-,h⟩;exact h0 h)] at this))
           clear h0
           go_wp2_with fail
           go_ret
           exact ⟨0,HC3.out,rfl,hBr⟩
    ·have hd2 : (u != 0) = true:=by simpa using h2
     have H2:=hid h2
     clear h2
     (go_enter Tryz.func18,Tryz.ntmps18;go_wp2_with (first|(go_at_call 38;refine (HV.out _).mono ?_;rintro e w' ⟨rfl,rfl⟩)|(go_at_call 57;refine (HP.out _ BLw).mono ?_;rintro e w1 ⟨pk,hck,rfl,hb1⟩;obtain ⟨bC,hzC,B1⟩:=belows1 hb1;(obtain ⟨q0,q1,q2,q3,q4,q5,q6,q7⟩:=bC.cells8);have HCK:=hid hck;have BC1:=hid bC;have HB1:=hid B1;clear hb1 bC B1 hck;by_cases hz : pk = 0;all_goals (first|(subst hz)|(have hd : (pk != 0) = true:=(by simpa using hz);have HZ:=hid hz;clear hz)))|(go_at_call 58;first|((with_reducible refine (HT.out _ ?_).mono ?_);exact HB1.out;rintro e w2 ⟨rfl,hb2⟩;have HB2:=hid (belows HB1.out hb2 HB1.out.size);have bC:=BC1.out.below hb2 BC1.out.sz;have BC2:=hid bC;clear q0 q1 q2 q3 q4 q5 q6 q7;(obtain ⟨q0,q1,q2,q3,q4,q5,q6,q7⟩:=bC.cells8);clear hb2 bC)|((with_reducible refine (HU.out _ ?_).mono ?_);exact HB2.out;rintro e w3 ⟨rfl,hb3⟩;have HB3:=hid (belows HB2.out hb3 HB2.out.size);have bC:=BC2.out.below hb3 BC2.out.sz;have BC3:=hid bC;clear q0 q1 q2 q3 q4 q5 q6 q7;(obtain ⟨q0,q1,q2,q3,q4,q5,q6,q7⟩:=bC.cells8);clear hb3 bC))))
     ·go_ret
      exact ⟨u,CL0.out u (HH.out u 0 HCK.out (by rw [if_neg (by decide),if_neg (by decide),if_neg (by decide),if_pos H2.out])) H2.out,rfl,HB3.out⟩
     ·(go_ret;exact ⟨pk,CL0.out pk (HH.out pk pk HCK.out (by rw [if_pos HZ.out])) HZ.out,rfl,HB1.out⟩)
   ·have hd2 : (t != 0) = true:=by simpa using h1
    have H1:=hid h1
    clear h1
    (go_enter Tryz.func18,Tryz.ntmps18;go_wp2_with (first|(go_at_call 38;refine (HV.out _).mono ?_;rintro e w' ⟨rfl,rfl⟩)|(go_at_call 57;refine (HP.out _ BLw).mono ?_;rintro e w1 ⟨pk,hck,rfl,hb1⟩;obtain ⟨bC,hzC,B1⟩:=belows1 hb1;(obtain ⟨q0,q1,q2,q3,q4,q5,q6,q7⟩:=bC.cells8);have HCK:=hid hck;have BC1:=hid bC;have HB1:=hid B1;clear hb1 bC B1 hck;by_cases hz : pk = 0;all_goals (first|(subst hz)|(have hd : (pk != 0) = true:=(by simpa using hz);have HZ:=hid hz;clear hz)))|(go_at_call 58;first|((with_reducible refine (HT.out _ ?_).mono ?_);exact HB1.out;rintro e w2 ⟨rfl,hb2⟩;have HB2:=hid (belows HB1.out hb2 HB1.out.size);have bC:=BC1.out.below hb2 BC1.out.sz;have BC2:=hid bC;clear q0 q1 q2 q3 q4 q5 q6 q7;(obtain ⟨q0,q1,q2,q3,q4,q5,q6,q7⟩:=bC.cells8);clear hb2 bC)|((with_reducible refine (HU.out _ ?_).mono ?_);exact HB2.out;rintro e w3 ⟨rfl,hb3⟩;have HB3:=hid (belows HB2.out hb3 HB2.out.size);have bC:=BC2.out.below hb3 BC2.out.sz;have BC3:=hid bC;clear q0 q1 q2 q3 q4 q5 q6 q7;(obtain ⟨q0,q1,q2,q3,q4,q5,q6,q7⟩:=bC.cells8);clear hb3 bC))))
    ·go_ret
     exact ⟨t,CL0.out t (HH.out t 0 HCK.out (by rw [if_neg (by decide),if_neg (by decide),if_pos H1.out])) H1.out,rfl,HB2.out⟩
    ·(go_ret;exact ⟨pk,CL0.out pk (HH.out pk pk HCK.out (by rw [if_pos HZ.out])) HZ.out,rfl,HB1.out⟩)
end Go.Proofs.YtnojgiflgmnjlaaGreatDoor
