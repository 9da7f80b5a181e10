/- Own texts for the claim, part 23. -/
import Derived.Test.YtnojgiflgmnjlaaGreatDoorZD22
import Derived.Deep.CutBlock
import Derived.Test.YtnojgiflgmnjlaaGreatDoorRows
import Derived.ChangeSlices
set_option maxRecDepth 100000
namespace Go.Proofs.YtnojgiflgmnjlaaGreatDoor
open Go Go.RowKit
set_option maxHeartbeats 40000000 in
theorem rdecode_any (bs : List UInt8) (v : Value) (w : World) (hv : L3.Bs w.heap.size w v bs) : Calls Tryz.prog 12 #[v] w (RdPost bs w):=by
 have hlen:=hv.1
 obtain ⟨Q,hQ⟩ : ∃ Q,Q = RdPost bs w:=⟨_,rfl⟩
 have HQ:=hid hQ
 by_cases h1 : 65536 < bs.length
 ·have d1 : decide (65536 < (bs.length : Int)) = true:=by simp;omega
  have d2 : decide (65536 < bs.length) = true:=by simpa using h1
  have hr : Cf.DcIs bs Cf.K0 3:=by unfold Cf.DcIs;rw [if_pos h1];exact ⟨rfl,rfl⟩
  obtain ⟨a,cap,rfl⟩:=hv.len
  have HR:=hid hr
  clear hv hr h1 hQ HQ
  go_enter Tryz.func12,Tryz.ntmps12
  go_wp2
  exact bodyPost_ret (v:=.tuple #[.agg #[.int .i64 0,.int .i64 0,.slice none 0 0,.int .i64 0,.int .i64 0,.int .i64 0,.slice none 0 0,.slice none 0 0],.int .i64 3]) (by simp [results,Tryz.results12,go_sem]) rfl ⟨_,_,_,HR.out,rfl,k0_reads _,BLw⟩
 ·have d1 : decide (65536 < (bs.length : Int)) = false:=by simp;omega
  have d2 : decide (65536 < bs.length) = false:=by simpa using h1
  have HN:=hid (fun s W (k : RdD W (w.heap.size + 1) bs s)=>num2_any (w.heap.size + 1) bs s W k)
  have HV:=hid (fun s W (k : RdD W (w.heap.size + 1) bs s)=>num4_any (w.heap.size + 1) bs s W k)
  have HF:=hid (fun er (he : er ≠ 0) s x W (k : RdD W (w.heap.size + 1) bs s)=>failR_any (w.heap.size + 1) bs s x er he W k)
  have HD:=hid (fun s W (k : RdD W (w.heap.size + 1) bs s)=>dfield_lit (w.heap.size + 1) bs s W k)
  have HVer:=hid (fun mi ma W=>rversion_any mi ma W)
  obtain ⟨a,cap,rfl⟩:=hv.len
  have HBs:=hid hv
  have HL:=hid h1
  rw [← hQ]
  clear hv h1 hQ
  show Calls _ _ _ _ fun e w'=>Q e w'
  go_enter Tryz.func12,Tryz.ntmps12
  go_wp2_with fail
  obtain ⟨W0,hW0⟩ : ∃ W0,W0 = (((w.alloc (.cells #[.int .i64 0,.int .i64 0,.slice none 0 0,.int .i64 0,.int .i64 0,.int .i64 0,.slice none 0 0,.slice none 0 0] 26)).alloc (.cells #[.slice a bs.length cap,.int .i64 0,.int .i64 0] 65)).alloc (.cells #[.int .i64 0,.int .i64 0,.slice none 0 0,.int .i64 0,.int .i64 0,.int .i64 0,.slice none 0 0,.slice none 0 0] 26)):=⟨_,rfl⟩
  obtain ⟨bR,bP,bC,hzW,B0⟩:=three hW0
  rw [← hW0]
  have HM0:=hid (show Dst w bs W0 (bs,0) #[.int .i64 0,.int .i64 0,.slice none 0 0,.int .i64 0,.int .i64 0,.int .i64 0,.slice none 0 0,.slice none 0 0] from ⟨B0,⟨_,0,bP,(HBs.out.below B0 (Nat.le_refl _)).mono (Nat.le_succ _),Nat.zero_le _,rfl⟩,bR,bC⟩)
  clear hW0 bR bP bC B0
  refine (HV.out _ W0 HM0.out.r).mono ?_
  rintro e w1 ⟨x1,t1,rfl,hx1,hrun,hg,hr⟩
  have HU1:=hid hrun
  have HM1:=hid (HM0.out.step hg hr)
  clear hrun hg hr
  obtain ⟨y1,hy1⟩ : ∃ y,y = (x1 != 3405691582):=⟨_,rfl⟩
  have HY1:=hid hy1
  go_wp2_with fail
  rw [← hy1]
  clear hy1
  refine (HF.out 40 (by decide) t1 y1 w1 HM1.out.r).mono ?_
  rintro e w2 ⟨rfl,t2,hrun,hg,hr⟩
  have HU2:=hid hrun
  have HM2:=hid (HM1.out.step hg hr)
  clear hrun hg hr
  go_wp2_with fail
  refine (HN.out t2 w2 HM2.out.r).mono ?_
  rintro e w3 ⟨x3,t3,rfl,hx3,hrun,hg,hr⟩
  have HU3:=hid hrun
  have HM3:=hid (HM2.out.step hg hr)
  clear hrun hg hr
  have f0:=HM3.out.cx.frozen 0
  have c0:=HM3.out.cx.cell 0
  simp at c0
  go_wp2_with fail
  clear f0 c0
  have hset:=HM3.out.set 0 (.int .i64 x3)
  simp only [List.setIfInBounds_toArray,List.set_cons_zero,List.set_cons_succ] at hset
  obtain ⟨X3,hX⟩ : ∃ X,X = w3.setCell ⟨w.heap.size + 1 + 1,0,none⟩ (.int .i64 x3):=⟨_,rfl⟩
  rw [← hX] at hset ⊢
  have HX3:=hid hset
  clear hset hX
  refine (HN.out t3 X3 HX3.out.r).mono ?_
  rintro e w4 ⟨x4,t4,rfl,hx4,hrun,hg,hr⟩
  have HU4:=hid hrun
  have HM4:=hid (HX3.out.step hg hr)
  clear hrun hg hr
  have f1:=HM4.out.cx.frozen 1
  have c1:=HM4.out.cx.cell 1
  have c0:=HM4.out.cx.cell 0
  simp at c0 c1
  go_wp2_with fail
  clear f1 c1 c0
  have hset:=HM4.out.set 1 (.int .i64 x4)
  simp only [List.setIfInBounds_toArray,List.set_cons_zero,List.set_cons_succ] at hset
  obtain ⟨X4,hX⟩ : ∃ X,X = w4.setCell ⟨w.heap.size + 1 + 1,1,none⟩ (.int .i64 x4):=⟨_,rfl⟩
  rw [← hX] at hset ⊢
  have HX4:=hid hset
  clear hset hX
  refine (HVer.out x3 x4 X4).mono ?_
  rintro e _ ⟨rfl,rfl⟩
  obtain ⟨y5,hy5⟩ : ∃ y,y = !(Cf.verB x3 x4):=⟨_,rfl⟩
  have HY5:=hid hy5
  obtain ⟨vb,hvb⟩ : ∃ b,b = Cf.verB x3 x4:=⟨_,rfl⟩
  have HVb:=hid hvb
  rw [← hvb]
  rw [← hvb] at hy5
  clear hvb
  go_wp2_with fail
  rw [← hy5]
  clear hy5
  refine (HF.out 41 (by decide) t4 y5 X4 HX4.out.r).mono ?_
  rintro e w5 ⟨rfl,t5,hrun,hg,hr⟩
  have HU5:=hid hrun
  have HM5:=hid (HX4.out.step hg hr)
  clear hrun hg hr
  obtain ⟨v5,k5,hb5,hv5,hk5,hs5⟩:=HM5.out.r
  have q2:=hb5.cell 2
  simp at q2
  go_upto_if 41 with fail
  have HB5:=hid hb5
  have HV5:=hid hv5
  have HK5:=hid hk5
  have HS5:=hid hs5
  have q1:=hb5.cell 1
  simp at q1
  have hz5:=HM5.out.cx.sz
  clear hb5 hv5 hk5 hs5
  go_cut [3] (fun b wx=>b = .int .i64 0 ∧ ∃ (t : List UInt8 × Int) (Pl : List L3.Cp.C) (pp : Option Addr) (pcap : Nat),Cf.Run Cf.poolP t5 Pl t ∧ Dst w bs wx t #[.int .i64 x3,.int .i64 x4,.slice pp Pl.length pcap,.int .i64 0,.int .i64 0,.int .i64 0,.slice none 0 0,.slice none 0 0] ∧ L3.OwnC wx (w.heap.size + 1 + 1 + 1) (.slice pp Pl.length pcap) Pl ∧ Pl.length ≤ 4097)
  case first =>
   by_cases ht : t5.2 = 0
   ·have hd : (t5.2 == 0) = true:=by simpa using ht
    have HT:=hid ht
    clear ht
    go_upto_region 10 with fail
    go_cut [6,7,8] (fun a b c wx=>∃ (o : List L3.Cp.C × Int × Int) (pp : Option Addr) (pcap : Nat),a = .slice pp o.1.length pcap ∧ b = .int .i64 o.2.1 ∧ c = .int .i64 o.2.2 ∧ L3.tkOut (bs.drop k5) = o ∧ L3.OwnC wx w5.heap.size (.slice pp o.1.length pcap) o.1 ∧ Below w5.heap.size w5 wx)
    case first =>
     have HTk:=hid (fun v (hv : L3.Bs w5.heap.size w5 v (bs.drop k5))=>L3.rtake_any (bs.drop k5) v w5 hv)
     have hk5:=HK5.out
     obtain ⟨sa,sc,hsl,hSV⟩:=bs_slice (HBs.out.below HM5.out.b (Nat.le_refl _)) hk5
     have HSV:=hid (hSV.mono HM5.out.b.size)
     clear hSV
     go_wp2_with fail
     clear hsl
     refine (HTk.out _ HSV.out).mono ?_
     rintro e w6 ⟨pv,rfl,hO,hb6⟩
     obtain ⟨pa6,pc6,rfl⟩:=L3.own_form hO
     have HO6:=hid hO
     have HB6:=hid hb6
     clear hO hb6
     go_wp2_with fail
     go_meet
     exact ⟨_,pa6,pc6,rfl,rfl,rfl,rfl,HO6.out,HB6.out⟩
    case rest =>
     obtain ⟨o,pa6,pc6,rfl,rfl,rfl,htk,hO,hb6⟩:=hcut
     have HM6:=hid (HM5.out.below hb6)
     have HB6:=hid (HB5.out.below hb6 HB5.out.sz)
     have HO6:=hid (L3.own_mono (base':=w.heap.size + 1 + 1 + 1) hO HM5.out.cx.sz)
     have HV6:=hid (HV5.out.below hb6 (by have:=HB5.out.sz;omega))
     have htk9:=htk
     have hpl6 : o.1.length ≤ 4097:=by rw [← htk];exact L3.tkOut_len _
     obtain ⟨kN,er,hkj,hkN,hrun⟩:=Cf.pool_take HT.out HS5.out HK5.out htk
     obtain ⟨l,n,er'⟩:=o
     dsimp only at hkj hrun HO6 hpl6 ⊢
     have HPl6:=hid hpl6
     clear hpl6
     obtain ⟨rfl,hrun⟩:=hrun
     have HKN:=hid hkN
     have HRn:=hid hrun
     have c2:=HM6.out.cx.cell 2
     have f2:=HM6.out.cx.frozen 2
     have q1:=HB6.out.cell 1
     have q2:=HB6.out.cell 2
     have g1:=HB6.out.frozen 1
     have g2:=HB6.out.frozen 2
     simp at c2 q1 q2
     clear hO hb6 htk htk9 hkN hrun
     go_wp2_with fail
     go_meet
     have hD:=(HM6.out.set 2 (.slice pa6 l.length pc6))
     simp only [List.setIfInBounds_toArray,List.set_cons_zero,List.set_cons_succ] at hD
     have hD2:=Dst.rd hD (HB6.out.grown (L3.set_grown _ _ _ _) (fun e=>by (have:=Option.some.inj e;omega))) (bs_low HV6.out (L3.set_grown _ _ _ _) (Nat.le_succ _) (Nat.le_of_lt HB6.out.sz)) HKN.out er'
     have hw : wrap64 (kN : Int) = (kN : Int):=by have:=HKN.out;unfold wrap64;omega
     rw [hw]
     exact ⟨rfl,_,l,pa6,pc6,HRn.out,hD2,Kit.owns_grown (Kit.owns_grown (Kit.owns_grown HO6.out (L3.set_grown _ _ _ _) (by omega)) (L3.set_grown _ _ _ _) (by omega)) (L3.set_grown _ _ _ _) (by omega),HPl6.out⟩
   ·have hd : (t5.2 == 0) = false:=by simpa using ht
    have HT:=hid ht
    clear ht
    go_wp2_with fail
    go_meet
    exact ⟨rfl,t5,[],none,0,.dead HT.out rfl,HM5.out,⟨rfl,.inl ⟨rfl,rfl⟩⟩,by simp⟩
  case rest =>
   obtain ⟨rfl,t6,Pl,pp,pcap,hrun,hd6,hO6,hPl⟩:=hcut
   have HU6:=hid hrun
   have HM6:=hid (Dsk.start hd6)
   have HOp:=hid hO6
   have HPl:=hid hPl
   have hltA : w.heap.size + 1 + 1 < wc.heap.size:=hd6.cx.sz
   obtain ⟨wA,rfl⟩ : ∃ W,W = wc:=⟨wc,rfl⟩
   clear hrun hd6 hO6 hPl
   go_wp2_with fail
   refine (HN.out t6 wA HM6.out.d.r).mono ?_
   rintro e w7 ⟨x7,t7,rfl,hx7,hrun,hg,hr⟩
   have HU7:=hid hrun
   have HM7:=hid (HM6.out.step hg hr)
   clear hrun hg hr
   have f3:=HM7.out.d.cx.frozen 3
   have c3:=HM7.out.d.cx.cell 3
   simp at c3
   go_wp2_with fail
   clear f3 c3
   have hset:=HM7.out.set 3 (.int .i64 x7)
   simp only [List.setIfInBounds_toArray,List.set_cons_zero,List.set_cons_succ] at hset
   obtain ⟨X7,hX⟩ : ∃ X,X = w7.setCell ⟨w.heap.size + 1 + 1,3,none⟩ (.int .i64 x7):=⟨_,rfl⟩
   rw [← hX] at hset ⊢
   have HX7:=hid hset
   clear hset hX
   refine (HN.out t7 X7 HX7.out.d.r).mono ?_
   rintro e w8 ⟨x8,t8,rfl,hx8,hrun,hg,hr⟩
   have HU8:=hid hrun
   have HM8:=hid (HX7.out.step hg hr)
   clear hrun hg hr
   have f4:=HM8.out.d.cx.frozen 4
   have c4:=HM8.out.d.cx.cell 4
   simp at c4
   go_wp2_with fail
   clear f4 c4
   have hset:=HM8.out.set 4 (.int .i64 x8)
   simp only [List.setIfInBounds_toArray,List.set_cons_zero,List.set_cons_succ] at hset
   obtain ⟨X8,hX⟩ : ∃ X,X = w8.setCell ⟨w.heap.size + 1 + 1,4,none⟩ (.int .i64 x8):=⟨_,rfl⟩
   rw [← hX] at hset ⊢
   have HX8:=hid hset
   clear hset hX
   refine (HN.out t8 X8 HX8.out.d.r).mono ?_
   rintro e w9 ⟨x9,t9,rfl,hx9,hrun,hg,hr⟩
   have HU9:=hid hrun
   have HM9:=hid (HX8.out.step hg hr)
   clear hrun hg hr
   have f5:=HM9.out.d.cx.frozen 5
   have c5:=HM9.out.d.cx.cell 5
   simp at c5
   go_wp2_with fail
   clear f5 c5
   have hset:=HM9.out.set 5 (.int .i64 x9)
   simp only [List.setIfInBounds_toArray,List.set_cons_zero,List.set_cons_succ] at hset
   obtain ⟨X9,hX⟩ : ∃ X,X = w9.setCell ⟨w.heap.size + 1 + 1,5,none⟩ (.int .i64 x9):=⟨_,rfl⟩
   rw [← hX] at hset ⊢
   have HX9:=hid hset
   clear hset hX
   refine (HN.out t9 X9 HX9.out.d.r).mono ?_
   rintro e w10 ⟨x10,t10,rfl,hx10,hrun,hg,hr⟩
   have HU10:=hid hrun
   have HM10:=hid (HX9.out.step hg hr)
   clear hrun hg hr
   obtain ⟨y10,hy10⟩ : ∃ y,y = (x10 != 0):=⟨_,rfl⟩
   have HY10:=hid hy10
   go_wp2_with fail
   rw [← hy10]
   clear hy10
   refine (HF.out 43 (by decide) t10 y10 w10 HM10.out.d.r).mono ?_
   rintro e w11 ⟨rfl,t11,hrun,hg,hr⟩
   have HU11:=hid hrun
   have HM11:=hid (HM10.out.step hg hr)
   clear hrun hg hr
   go_wp2_with fail
   refine (HN.out t11 w11 HM11.out.d.r).mono ?_
   rintro e w12 ⟨x12,t12,rfl,hx12,hrun,hg,hr⟩
   have HU12:=hid hrun
   have HM12:=hid (HM11.out.step hg hr)
   clear hrun hg hr
   obtain ⟨K,rfl⟩:=Int.eq_ofNat_of_zero_le hx12.1
   have hK:=hx12.2
   go_upto_block 0 with fail
   go_cut [9] (fun _ wx=>∃ (t : List UInt8 × Int) (xs : List Cf.Mb) (xa : Option Addr) (xn xc : Nat),Hid (xs.length = xn ∧ Cf.Run (Cf.listP Cf.fdP K) t12 xs t ∧ xn ≤ 65535 ∧ Dsk w bs wx t #[.int .i64 x3,.int .i64 x4,.slice pp Pl.length pcap,.int .i64 x7,.int .i64 x8,.int .i64 x9,.slice xa xn xc,.slice none 0 0] wA ∧ OMs wx wA.heap.size (.slice xa xn xc) xs))
   case first =>
    go_wp2_with fail
    go_loopw [9] (fun kk wr=>∃ (j : Nat) (t : List UInt8 × Int) (xs : List Cf.Mb) (xa : Option Addr) (xc : Nat),j ≤ K ∧ kk = .int .i64 ((K : Int) - (j : Int)) ∧ Hid (xs.length = j ∧ Cf.Run (Cf.listP Cf.fdP j) t12 xs t ∧ Dsk w bs wr t #[.int .i64 x3,.int .i64 x4,.slice pp Pl.length pcap,.int .i64 x7,.int .i64 x8,.int .i64 x9,.slice xa j xc,.slice none 0 0] wA ∧ OMs wr wA.heap.size (.slice xa j xc) xs)) (fun kk _=>(intOf kk).toNat)
    case atStart=>exact ⟨0,t12,[],none,0,Nat.zero_le _,by simp,hid ⟨rfl,Cf.Run.ret [] t12,HM12.out,OMs.nil _ _⟩⟩
    case round =>
     obtain ⟨j,t,xs,xa,xc,hj,rfl,HI⟩:=hrel
     obtain ⟨v9,k9,hb9,-⟩:=HI.out.2.2.1.d.r
     have q2:=hb9.cell 2
     simp at q2
     clear hb9
     by_cases hlt : j < K
     ·have hji : (j : Int) < (K : Int):=by omega
      by_cases ht : t.2 = 0
      ·have hd : (t.2 == 0) = true:=by simpa using ht
       have HT:=hid ht
       clear ht
       have hMd:=HI.out.2.2.1.drew
       have m6:=hMd.d.cx.cell 6
       have m2:=hMd.d.cx.cell 2
       simp at m6 m2
       have HMd:=hid hMd
       have HO0:=hid (OMs.below HI.out.2.2.2 ((Below.refl wr.heap.size wr).drew) (Nat.le_refl _))
       have hzd:=hMd.k.size
       clear hMd
       have cf:=fun (u : Value) (w : World)=>(show (callFunc 40 #[u]).run Tryz.prog w = .ok (.enter 40 #[u]) w by kernel_rfl)
       obtain ⟨i0,hi,hz0,hz1,hz2⟩:=info_parts infoM
       go_wp2_with fail
       go_region_law (first
        | ((fail_if_success (have _g:=HA1));refine Kit.step_call1 rfl 40 (.tmp 96) 63 rfl _ rfl (cf _ _) _ (HD.out t wr.drew HMd.out.d.r) ?_;rintro e w1 ⟨b1,b2,b3,u1,rfl,hrun,hg,hr⟩;refine ⟨_,rfl,?_⟩;have HA1:=hid hrun;have HB1:=hid (HMd.out.step hg hr);have hO1:=HO0.out.grown hg (by omega);obtain ⟨rs,hrs,hown⟩:=hO1;rw [HI.out.1] at hown;have HRs:=hid hrs;have HOw:=hid hown;have HMb:=hid (OMb.bare w1 wA.heap.size b1 b2 b3);clear m6 m2;have m6:=HB1.out.d.cx.cell 6;have m2:=HB1.out.d.cx.cell 2;simp at m6 m2;have hzm1:=HB1.out.d.cx.sz;clear hrun hg hr hrs hown)
        | (have _g:=HA1;refine Kit.step_append_own rfl (.tmp 95) (.tmp 98) 24 rfl wA.heap.size 42 i0 _ 7 88 Tryz.underlying24 hi hz0 hz1 hz2 rfl (by decide) (.slice xa j xc) j _ rfl (World.ownsRow.alloc HOw.out _) ⟨w1.heap.size,0,none⟩ 1 1 (mL ⟨b1,b2,b3,0,0,[],[]⟩ (.slice none 0 0) (.slice none 0 0)) rfl rfl (news_m w1 ⟨b1,b2,b3,0,0,[],[]⟩ _ _) (ones_m ⟨b1,b2,b3,0,0,[],[]⟩ rfl rfl) (by unfold maxLen;omega) (by omega) (by (have:=HB1.out.k.size;simp only [World.size_alloc];omega)) ?_;intro v5 w5 ho5 hg5 hk5;have hbB : Below wA.heap.size w1 w5:=(((Below.refl w1.heap.size w1).alloc (Nat.le_refl _) (.cells #[.int .i64 b1,.int .i64 b2,.int .i64 b3,.int .i64 0,.int .i64 0,.slice none 0 0,.slice none 0 0] 42)).mono HB1.out.k.size).grown hg5 (by (have:=HB1.out.k.size;simp only [World.size_alloc];omega)) (fun k hk=>Kit.own_base HOw.out k hk);have hb1a : Below w1.heap.size w1 (w1.alloc (.cells #[.int .i64 b1,.int .i64 b2,.int .i64 b3,.int .i64 0,.int .i64 0,.slice none 0 0,.slice none 0 0] 42)):=(Below.refl w1.heap.size w1).alloc (Nat.le_refl _) _;have hpu : OMs w5 wA.heap.size v5 (xs ++ [⟨b1,b2,b3,0,0,[],[]⟩]):=OMs.push (HRs.out.mono fun _ _ k=>k.below hb1a (Nat.le_refl _)) (by (rw [HI.out.1];exact World.ownsRow.alloc HOw.out _)) (HMb.out.below hb1a (Nat.le_refl _)) hg5 (by (rw [HI.out.1];exact ho5));obtain ⟨xa5,xc5,rfl⟩:=own_form2 ho5;have HP5:=hid hpu;have HB5:=hid (HB1.out.belowB hbB hltA (Nat.le_refl _));have f6:=HB5.out.d.cx.frozen 6;clear m6;have m6:=HB5.out.d.cx.cell 6;simp at m6;clear ho5 hg5 hk5 hbB hb1a hpu))
       all_goals
        go_wp2
        go_roundw
        case rel =>
         have hset:=HB5.out.set 6 (.slice xa5 (j + 1) xc5)
         simp only [List.setIfInBounds_toArray,List.set_cons_zero,List.set_cons_succ] at hset
         have hgs:=L3.set_grown w5 (w.heap.size + 1 + 1) 6 (.slice xa5 (j + 1) xc5)
         exact ⟨j + 1,u1,xs ++ [⟨b1,b2,b3,0,0,[],[]⟩],xa5,xc5,by omega,by go_num,hid ⟨by rw [List.length_append,HI.out.1];rfl,Cf.list_snoc HI.out.2.1 HA1.out HI.out.1,hset,HP5.out.grown hgs hltA⟩⟩
        case measure=>simp [intOf];omega
      ·have hd : (t.2 == 0) = false:=by simpa using ht
       have HRL:=hid (Cf.list_early (l':=xs) HI.out.2.1 ht hj)
       clear ht
       go_wp2_with fail
       go_meet
       exact ⟨t,xs,xa,j,xc,hid ⟨HI.out.1,HRL.out,by omega,HI.out.2.2.1,HI.out.2.2.2⟩⟩
     ·obtain rfl : j = K:=by omega
      go_wp2_with fail
      go_meet
      exact ⟨t,xs,xa,j,xc,hid ⟨HI.out.1,HI.out.2.1,by omega,HI.out.2.2.1,HI.out.2.2.2⟩⟩
   case rest =>
    obtain ⟨wB,rfl⟩ : ∃ W,W = wc:=⟨wc,rfl⟩
    obtain ⟨t13,fs,fa,nf,fc,HC⟩:=hcut
    have HM13:=hid (Dsk.start HC.out.2.2.2.1.d)
    have hltB : w.heap.size + 1 + 1 < wB.heap.size:=HM13.out.d.cx.sz
    have HOB:=hid (owns_kp HOp.out HC.out.2.2.2.1.k.block)
    have HFB:=hid (HC.out.2.2.2.2.mono (base':=w.heap.size + 1 + 1 + 1) hltA)
    go_wp2_with fail
    refine (HN.out t13 wB HM13.out.d.r).mono ?_
    rintro e w14 ⟨x14,t14,rfl,hx14,hrun,hg,hr⟩
    have HU14:=hid hrun
    have HM14:=hid (HM13.out.step hg hr)
    clear hrun hg hr
    obtain ⟨L,rfl⟩:=Int.eq_ofNat_of_zero_le hx14.1
    have hL:=hx14.2
    have HMt:=hid (fun s W (k : RdD W (w.heap.size + 1) bs s) (q : Kp (w.heap.size + 1 + 1 + 1) wB W)=>dmethod_lit (w.heap.size + 1) bs s Pl pp pcap W k (fun W' hg=>Kit.isS_of_owns (owns_kp HOB.out (q.grown hg (fun k e=>.inl (by have:=Option.some.inj e;omega))).block) (by have:=HPl.out;omega)))
    go_upto_block 2 with fail
    go_cut [10] (fun _ wx=>∃ (t : List UInt8 × Int) (xs : List Cf.Mb) (xa : Option Addr) (xn xc : Nat),Hid (xs.length = xn ∧ Cf.Run (Cf.listP (Cf.meP (Cf.cix Pl : Nat)) L) t14 xs t ∧ xn ≤ 65535 ∧ Dsk w bs wx t #[.int .i64 x3,.int .i64 x4,.slice pp Pl.length pcap,.int .i64 x7,.int .i64 x8,.int .i64 x9,.slice fa nf fc,.slice xa xn xc] wB ∧ OMs wx wB.heap.size (.slice xa xn xc) xs))
    case first =>
     go_wp2_with fail
     go_loopw [10] (fun kk wr=>∃ (j : Nat) (t : List UInt8 × Int) (xs : List Cf.Mb) (xa : Option Addr) (xc : Nat),j ≤ L ∧ kk = .int .i64 ((L : Int) - (j : Int)) ∧ Hid (xs.length = j ∧ Cf.Run (Cf.listP (Cf.meP (Cf.cix Pl : Nat)) j) t14 xs t ∧ Dsk w bs wr t #[.int .i64 x3,.int .i64 x4,.slice pp Pl.length pcap,.int .i64 x7,.int .i64 x8,.int .i64 x9,.slice fa nf fc,.slice xa j xc] wB ∧ OMs wr wB.heap.size (.slice xa j xc) xs)) (fun kk _=>(intOf kk).toNat)
     case atStart=>exact ⟨0,t14,[],none,0,Nat.zero_le _,by simp,hid ⟨rfl,Cf.Run.ret [] t14,HM14.out,OMs.nil _ _⟩⟩
     case round =>
      obtain ⟨j,t,xs,xa,xc,hj,rfl,HI⟩:=hrel
      obtain ⟨v9,k9,hb9,-⟩:=HI.out.2.2.1.d.r
      have q2:=hb9.cell 2
      simp at q2
      clear hb9
      by_cases hlt : j < L
      ·have hji : (j : Int) < (L : Int):=by omega
       by_cases ht : t.2 = 0
       ·have hd : (t.2 == 0) = true:=by simpa using ht
        have HT:=hid ht
        clear ht
        have hMd:=HI.out.2.2.1.drew
        have m6:=hMd.d.cx.cell 7
        have m2:=hMd.d.cx.cell 2
        simp at m6 m2
        have HMd:=hid hMd
        have HO0:=hid (OMs.below HI.out.2.2.2 ((Below.refl wr.heap.size wr).drew) (Nat.le_refl _))
        have hzd:=hMd.k.size
        clear hMd
        have cf:=fun (u v : Value) (w : World)=>(show (callFunc 41 #[u,v]).run Tryz.prog w = .ok (.enter 41 #[u,v]) w by kernel_rfl)
        obtain ⟨i0,hi,hz0,hz1,hz2⟩:=info_parts infoM
        go_wp2_with fail
        go_region_law (first
         | ((fail_if_success (have _g:=HA1));refine Kit.step_call2 rfl 41 (.tmp 116) (.tmp 118) 63 23 rfl _ _ rfl rfl (cf _ _ _) _ (HMt.out t wr.drew HMd.out.d.r HMd.out.k) ?_;rintro e w1 ⟨b1,b2,b3,b4,b5,co,hs,u1,ca,cn,cc,ha,hn,hc,rfl,hmb,hrun,hg,hr⟩;refine ⟨_,rfl,?_⟩;have HA1:=hid hrun;have HB1:=hid (HMd.out.step hg hr);have hO1:=HO0.out.grown hg (by omega);obtain ⟨rs,hrs,hown⟩:=hO1;rw [HI.out.1] at hown;have HRs:=hid hrs;have HOw:=hid hown;have HMb:=hid (hmb.mono hzd);clear m6 m2;have m6:=HB1.out.d.cx.cell 7;have m2:=HB1.out.d.cx.cell 2;simp at m6 m2;have hzm1:=HB1.out.d.cx.sz;clear hrun hg hr hrs hown hmb)
         | (have _g:=HA1;refine Kit.step_append_own rfl (.tmp 115) (.tmp 120) 24 rfl wB.heap.size 42 i0 _ 7 88 Tryz.underlying24 hi hz0 hz1 hz2 rfl (by decide) (.slice xa j xc) j _ rfl (World.ownsRow.alloc HOw.out _) ⟨w1.heap.size,0,none⟩ 1 1 (mL ⟨b1,b2,b3,b4,b5,co,hs⟩ (.slice ca cn cc) (.slice ha hn hc)) rfl rfl (news_m w1 ⟨b1,b2,b3,b4,b5,co,hs⟩ _ _) (ones_m ⟨b1,b2,b3,b4,b5,co,hs⟩ rfl rfl) (by unfold maxLen;omega) (by omega) (by (have:=HB1.out.k.size;simp only [World.size_alloc];omega)) ?_;intro v5 w5 ho5 hg5 hk5;have hbB : Below wB.heap.size w1 w5:=(((Below.refl w1.heap.size w1).alloc (Nat.le_refl _) (.cells #[.int .i64 b1,.int .i64 b2,.int .i64 b3,.int .i64 b4,.int .i64 b5,.slice ca cn cc,.slice ha hn hc] 42)).mono HB1.out.k.size).grown hg5 (by (have:=HB1.out.k.size;simp only [World.size_alloc];omega)) (fun k hk=>Kit.own_base HOw.out k hk);have hb1a : Below w1.heap.size w1 (w1.alloc (.cells #[.int .i64 b1,.int .i64 b2,.int .i64 b3,.int .i64 b4,.int .i64 b5,.slice ca cn cc,.slice ha hn hc] 42)):=(Below.refl w1.heap.size w1).alloc (Nat.le_refl _) _;have hpu : OMs w5 wB.heap.size v5 (xs ++ [⟨b1,b2,b3,b4,b5,co,hs⟩]):=OMs.push (HRs.out.mono fun _ _ k=>k.below hb1a (Nat.le_refl _)) (by (rw [HI.out.1];exact World.ownsRow.alloc HOw.out _)) (HMb.out.below hb1a (Nat.le_refl _)) hg5 (by (rw [HI.out.1];exact ho5));obtain ⟨xa5,xc5,rfl⟩:=own_form2 ho5;have HP5:=hid hpu;have HB5:=hid (HB1.out.belowB hbB hltB (Nat.le_refl _));have f6:=HB5.out.d.cx.frozen 7;clear m6;have m6:=HB5.out.d.cx.cell 7;simp at m6;clear ho5 hg5 hk5 hbB hb1a hpu))
        all_goals
         go_wp2
         go_roundw
         case rel =>
          have hset:=HB5.out.set 7 (.slice xa5 (j + 1) xc5)
          simp only [List.setIfInBounds_toArray,List.set_cons_zero,List.set_cons_succ] at hset
          have hgs:=L3.set_grown w5 (w.heap.size + 1 + 1) 7 (.slice xa5 (j + 1) xc5)
          exact ⟨j + 1,u1,xs ++ [⟨b1,b2,b3,b4,b5,co,hs⟩],xa5,xc5,by omega,by go_num,hid ⟨by rw [List.length_append,HI.out.1];rfl,Cf.list_snoc HI.out.2.1 HA1.out HI.out.1,hset,HP5.out.grown hgs hltB⟩⟩
         case measure=>simp [intOf];omega
       ·have hd : (t.2 == 0) = false:=by simpa using ht
        have HRL:=hid (Cf.list_early (l':=xs) HI.out.2.1 ht hj)
        clear ht
        go_wp2_with fail
        go_meet
        exact ⟨t,xs,xa,j,xc,hid ⟨HI.out.1,HRL.out,by omega,HI.out.2.2.1,HI.out.2.2.2⟩⟩
      ·obtain rfl : j = L:=by omega
       go_wp2_with fail
       go_meet
       exact ⟨t,xs,xa,j,xc,hid ⟨HI.out.1,HI.out.2.1,by omega,HI.out.2.2.1,HI.out.2.2.2⟩⟩
    case rest =>
     obtain ⟨wC,rfl⟩ : ∃ W,W = wc:=⟨wc,rfl⟩
     obtain ⟨t15,ms,ma,nm,mc,HE⟩:=hcut
     have HM15:=hid (Dsk.start HE.out.2.2.2.1.d)
     have HCl:=hid (show OCl wC (w.heap.size + 1 + 1 + 1) #[.int .i64 x3,.int .i64 x4,.slice pp Pl.length pcap,.int .i64 x7,.int .i64 x8,.int .i64 x9,.slice fa nf fc,.slice ma nm mc] ⟨x3,x4,Pl,x7,x8,x9,fs,ms⟩ from ⟨_,_,_,rfl,owns_kp HOB.out HE.out.2.2.2.1.k.block,HFB.out.kp HE.out.2.2.2.1.k,HE.out.2.2.2.2.mono hltB⟩)
     go_wp2_with fail
     refine (HN.out t15 wC HM15.out.d.r).mono ?_
     rintro e w16 ⟨x16,t16,rfl,hx16,hrun,hg,hr⟩
     have HU16:=hid hrun
     have HM16:=hid (HM15.out.step hg hr)
     clear hrun hg hr
     obtain ⟨y16,hy16⟩ : ∃ y,y = (x16 != 0):=⟨_,rfl⟩
     have HY16:=hid hy16
     go_wp2_with fail
     rw [← hy16]
     clear hy16
     refine (HF.out 43 (by decide) t16 y16 w16 HM16.out.d.r).mono ?_
     rintro e w17 ⟨rfl,t17,hrun,hg,hr⟩
     have HU17:=hid hrun
     have HM17:=hid (HM16.out.step hg hr)
     clear hrun hg hr
     obtain ⟨v17,k17,hb17,hv17,hk17,hs17⟩:=HM17.out.d.r
     have q1:=hb17.cell 1
     simp at q1
     have HS17:=hid hs17
     clear hb17 hv17 hs17
     obtain ⟨y17,hy17⟩ : ∃ y,y = decide ((k17 : Int) < (bs.length : Int)):=⟨_,rfl⟩
     have HY17:=hid hy17
     have hz17 : y17 = decide (k17 < bs.length):=by rw [hy17];simp
     go_wp2_with fail
     (first|rw [← hy17]|rw [← hz17])
     clear hy17 hz17 q1
     refine (HF.out 44 (by decide) t17 y17 w17 HM17.out.d.r).mono ?_
     rintro e w18 ⟨rfl,t18,hrun,hg,hr⟩
     have HU18:=hid hrun
     have HM18:=hid (HM17.out.step hg hr)
     clear hrun hg hr
     have HR18:=hid (Cf.cl_run HU1.out (by have h9:=HU2.out;rw [HY1.out,show (!(x1 != 3405691582)) = (x1 == 3405691582) by simp [bne]] at h9;exact h9) HU3.out HU4.out (by have h9:=HU5.out;rw [HY5.out,Bool.not_not] at h9;exact h9) HU6.out HU7.out HU8.out HU9.out (Cf.none_run HU10.out (by have h9:=HU11.out;rw [HY10.out,show (!(x10 != 0)) = (x10 == 0) by simp [bne]] at h9;exact h9)) (Cf.listN_run HU12.out HC.out.2.1) (Cf.listN_run HU14.out HE.out.2.1) (Cf.none_run HU16.out (by have h9:=HU17.out;rw [HY16.out,show (!(x16 != 0)) = (x16 == 0) by simp [bne]] at h9;exact h9)) (Cf.left_run HS17.out (by have h9:=HU18.out;rw [HY17.out] at h9;exact h9)))
     obtain ⟨v18,k18,hb18,-,-,-⟩:=HM18.out.d.r
     have q2:=hb18.cell 2
     have g2:=hb18.frozen 2
     simp at q2
     have HL18:=hid hb18
     clear hb18
     by_cases ht : t18.2 = 0
     ·have hd : (t18.2 == 0) = true:=by simpa using ht
      have hX:=Cf.dc_ok HR18.out ht
      have HX:=hid hX
      have HCl8:=hid (HCl.out.kp HM18.out.k)
      have HSz:=hid (show Cf.Sz ⟨x3,x4,Pl,x7,x8,x9,fs,ms⟩ from ⟨by have:=HPl.out;show Pl.length ≤ _;omega,by have h8:=HC.out.1;have h9:=HC.out.2.2.1;show fs.length ≤ _;omega,by have h8:=HE.out.1;have h9:=HE.out.2.2.1;show ms.length ≤ _;omega⟩)
      have HCk:=hid (rcheck04_any ⟨x3,x4,Pl,x7,x8,x9,fs,ms⟩ _ w18 (HCl8.out.reads HSz.out) (fun x hx=>⟨by have:=pool_small (cl_pool HX.out).1 x hx;omega,(cl_pool HX.out).2 x hx⟩))
      have cb:=HM18.out.d.cx
      obtain ⟨c0,c1,c2,c3,c4,c5,c6,c7⟩:=cb.cells8
      clear hX ht cb
      go_wp2_with fail
      clear c0 c1 c2 c3 c4 c5 c6 c7 q2 g2 hd
      refine HCk.out.mono ?_
      rintro e w19 ⟨er,hcl,rfl,hb⟩
      have HEr:=hid hcl
      have HM19:=hid (HM18.out.below hb)
      have HCl9:=hid (HCl8.out.below hb (Nat.le_refl _))
      clear hcl hb HCl8 HM18
      obtain ⟨v19,k19,hb19,-,-,-⟩:=HM19.out.d.r
      have q2:=hb19.cell 2
      have g2:=hb19.frozen 2
      simp at q2
      have HL19:=hid hb19
      clear hb19
      by_cases hz : er = 0
      ·subst hz
       have cb:=HM19.out.d.cx
       have nb:=HM19.out.d.rx
       obtain ⟨c0,c1,c2,c3,c4,c5,c6,c7⟩:=cb.cells8
       obtain ⟨n0,n1,n2,n3,n4,n5,n6,n7⟩:=nb.cells8
       have f0:=nb.frozen 0;have f1:=nb.frozen 1;have f2:=nb.frozen 2;have f3:=nb.frozen 3;have f4:=nb.frozen 4;have f5:=nb.frozen 5;have f6:=nb.frozen 6;have f7:=nb.frozen 7
       clear cb nb
       go_wp2
       clear c0 c1 c2 c3 c4 c5 c6 c7 n0 n1 n2 n3 n4 n5 n6 n7 f0 f1 f2 f3 f4 f5 f6 f7
       have g1:=L3.set_grown w19 (w.heap.size + 1) 2 (.int .i64 0)
       have nb:=HM19.out.d.rx.grown g1 (fun e=>by (have:=Option.some.inj e;omega))
       have b1:=nwB HM19.out.d.b g1 ⟨Nat.le_succ _,HM19.out.d.b.size⟩
       have o1:=HCl9.out.grown g1 (by omega)
       obtain ⟨Y,hY⟩ : ∃ Y,Y = w19.setCell ⟨w.heap.size + 1,2,none⟩ (.int .i64 0):=⟨_,rfl⟩
       rw [← hY] at nb b1 o1 ⊢
       have k8:=put8 nb rfl (.int .i64 x3) (.int .i64 x4) (.slice pp Pl.length pcap) (.int .i64 x7) (.int .i64 x8) (.int .i64 x9) (.slice fa nf fc) (.slice ma nm mc)
       have g8:=grown8 Y w.heap.size (.int .i64 x3) (.int .i64 x4) (.slice pp Pl.length pcap) (.int .i64 x7) (.int .i64 x8) (.int .i64 x9) (.slice fa nf fc) (.slice ma nm mc)
       have hbf:=nwB b1 g8 ⟨Nat.le_refl _,b1.size⟩
       have o2:=o1.grown g8 (by omega)
       obtain ⟨F,hF⟩ : ∃ F,F = ((((((((Y.setCell ⟨w.heap.size,0,none⟩ (.int .i64 x3)).setCell ⟨w.heap.size,1,none⟩ (.int .i64 x4)).setCell ⟨w.heap.size,2,none⟩ (.slice pp Pl.length pcap)).setCell ⟨w.heap.size,3,none⟩ (.int .i64 x7)).setCell ⟨w.heap.size,4,none⟩ (.int .i64 x8)).setCell ⟨w.heap.size,5,none⟩ (.int .i64 x9)).setCell ⟨w.heap.size,6,none⟩ (.slice fa nf fc)).setCell ⟨w.heap.size,7,none⟩ (.slice ma nm mc)):=⟨_,rfl⟩
       rw [← hF] at k8 hbf o2 ⊢
       clear g8 hF
       obtain ⟨n0,n1,n2,n3,n4,n5,n6,n7⟩:=k8.cells8
       exact bodyPost_ret (v:=.tuple #[.agg #[.int .i64 x3,.int .i64 x4,.slice pp Pl.length pcap,.int .i64 x7,.int .i64 x8,.int .i64 x9,.slice fa nf fc,.slice ma nm mc],.int .i64 0]) (by simp [results,Tryz.results12,go_sem,n0,n1,n2,n3,n4,n5,n6,n7]) rfl (by rw [HQ.out];exact ⟨_,_,_,(Cf.dc_end HL.out HX.out HEr.out).1 rfl,rfl,o2.reads HSz.out,hbf⟩)
      ·have hd : (er != 0) = true:=by simpa using hz
       have HZ:=hid hz
       clear hz
       go_wp2_with fail
       clear q2 g2
       have hn:=HL19.out.set 2 (.int .i64 er)
       simp only [List.setIfInBounds_toArray,List.set_cons_zero,List.set_cons_succ] at hn
       have g1:=L3.set_grown w19 (w.heap.size + 1) 2 (.int .i64 er)
       have nb0:=HM19.out.d.rx.grown g1 (fun e=>by (have:=Option.some.inj e;omega))
       have b1:=nwB HM19.out.d.b g1 ⟨Nat.le_succ _,HM19.out.d.b.size⟩
       obtain ⟨Y,hY⟩ : ∃ Y,Y = w19.setCell ⟨w.heap.size + 1,2,none⟩ (.int .i64 er):=⟨_,rfl⟩
       rw [← hY] at nb0 b1 hn ⊢
       have q2:=hn.cell 2
       simp only [List.getElem?_toArray,List.getElem?_cons_zero,List.getElem?_cons_succ] at q2
       clear hY g1 hn
       have nb:=nb0
       obtain ⟨n0,n1,n2,n3,n4,n5,n6,n7⟩:=nb.cells8
       have f0:=nb.frozen 0;have f1:=nb.frozen 1;have f2:=nb.frozen 2;have f3:=nb.frozen 3;have f4:=nb.frozen 4;have f5:=nb.frozen 5;have f6:=nb.frozen 6;have f7:=nb.frozen 7
       have HnX:=hid nb
       have HBX:=hid b1
       clear nb
       go_region
       all_goals
        clear n0 n1 n2 n3 n4 n5 n6 n7 f0 f1 f2 f3 f4 f5 f6 f7
        have k8:=put8 HnX.out rfl (.int .i64 0) (.int .i64 0) (.slice none 0 0) (.int .i64 0) (.int .i64 0) (.int .i64 0) (.slice none 0 0) (.slice none 0 0)
        have g8:=grown8 Y w.heap.size (.int .i64 0) (.int .i64 0) (.slice none 0 0) (.int .i64 0) (.int .i64 0) (.int .i64 0) (.slice none 0 0) (.slice none 0 0)
        have hbf:=nwB HBX.out g8 ⟨Nat.le_refl _,HBX.out.size⟩
        obtain ⟨F,hF⟩ : ∃ F,F = ((((((((Y.setCell ⟨w.heap.size,0,none⟩ (.int .i64 0)).setCell ⟨w.heap.size,1,none⟩ (.int .i64 0)).setCell ⟨w.heap.size,2,none⟩ (.slice none 0 0)).setCell ⟨w.heap.size,3,none⟩ (.int .i64 0)).setCell ⟨w.heap.size,4,none⟩ (.int .i64 0)).setCell ⟨w.heap.size,5,none⟩ (.int .i64 0)).setCell ⟨w.heap.size,6,none⟩ (.slice none 0 0)).setCell ⟨w.heap.size,7,none⟩ (.slice none 0 0)):=⟨_,rfl⟩
        rw [← hF] at k8 hbf ⊢
        clear g8 hF
        obtain ⟨n0,n1,n2,n3,n4,n5,n6,n7⟩:=k8.cells8
        go_wp2
        exact bodyPost_ret (v:=.tuple #[.agg #[.int .i64 0,.int .i64 0,.slice none 0 0,.int .i64 0,.int .i64 0,.int .i64 0,.slice none 0 0,.slice none 0 0],.int .i64 er]) (by simp [results,Tryz.results12,go_sem,n0,n1,n2,n3,n4,n5,n6,n7]) rfl (by rw [HQ.out];exact ⟨_,_,_,(Cf.dc_end HL.out HX.out HEr.out).2 HZ.out,rfl,k0_reads _,hbf.drew⟩)
     ·have hd : (t18.2 == 0) = false:=by simpa using ht
      have hd2 : (t18.2 != 0) = true:=by simpa using ht
      have HT:=hid ht
      clear ht
      go_wp2_with fail
      have nb:=HM18.out.d.rx
      obtain ⟨n0,n1,n2,n3,n4,n5,n6,n7⟩:=nb.cells8
      have f0:=nb.frozen 0;have f1:=nb.frozen 1;have f2:=nb.frozen 2;have f3:=nb.frozen 3;have f4:=nb.frozen 4;have f5:=nb.frozen 5;have f6:=nb.frozen 6;have f7:=nb.frozen 7
      have HnX:=hid nb
      have HBX:=hid HM18.out.d.b
      clear nb
      go_region
      all_goals
       clear n0 n1 n2 n3 n4 n5 n6 n7 f0 f1 f2 f3 f4 f5 f6 f7
       have k8:=put8 HnX.out rfl (.int .i64 0) (.int .i64 0) (.slice none 0 0) (.int .i64 0) (.int .i64 0) (.int .i64 0) (.slice none 0 0) (.slice none 0 0)
       have g8:=grown8 w18 w.heap.size (.int .i64 0) (.int .i64 0) (.slice none 0 0) (.int .i64 0) (.int .i64 0) (.int .i64 0) (.slice none 0 0) (.slice none 0 0)
       have hbf:=nwB HBX.out g8 ⟨Nat.le_refl _,HBX.out.size⟩
       obtain ⟨F,hF⟩ : ∃ F,F = ((((((((w18.setCell ⟨w.heap.size,0,none⟩ (.int .i64 0)).setCell ⟨w.heap.size,1,none⟩ (.int .i64 0)).setCell ⟨w.heap.size,2,none⟩ (.slice none 0 0)).setCell ⟨w.heap.size,3,none⟩ (.int .i64 0)).setCell ⟨w.heap.size,4,none⟩ (.int .i64 0)).setCell ⟨w.heap.size,5,none⟩ (.int .i64 0)).setCell ⟨w.heap.size,6,none⟩ (.slice none 0 0)).setCell ⟨w.heap.size,7,none⟩ (.slice none 0 0)):=⟨_,rfl⟩
       rw [← hF] at k8 hbf ⊢
       clear g8 hF
       obtain ⟨n0,n1,n2,n3,n4,n5,n6,n7⟩:=k8.cells8
       go_wp2
       exact bodyPost_ret (v:=.tuple #[.agg #[.int .i64 0,.int .i64 0,.slice none 0 0,.int .i64 0,.int .i64 0,.int .i64 0,.slice none 0 0,.slice none 0 0],.int .i64 t18.2]) (by simp [results,Tryz.results12,go_sem,n0,n1,n2,n3,n4,n5,n6,n7]) rfl (by rw [HQ.out];exact ⟨_,_,_,Cf.dc_err HL.out HR18.out HT.out,rfl,k0_reads _,hbf.drew⟩)
end Go.Proofs.YtnojgiflgmnjlaaGreatDoor
namespace Go.Proofs.YtnojgiflgmnjlaaGreatDoor
open Go.RowKit
theorem h_ne {x y : Cf.Hn} (h : x ≠ y) : (¬ x.f = y.f) ∨ (x.f = y.f ∧ ¬ x.t = y.t) ∨ (x.f = y.f ∧ x.t = y.t ∧ ¬ x.a = y.a) ∨ (x.f = y.f ∧ x.t = y.t ∧ x.a = y.a ∧ ¬ x.y = y.y):=by
 obtain ⟨f,t,a,z⟩:=x
 obtain ⟨f',t',a',z'⟩:=y
 dsimp only
 by_cases e1 : f = f'
 ·by_cases e2 : t = t'
  ·by_cases e3 : a = a'
   ·by_cases e4 : z = z'
    ·exact absurd (by rw [e1,e2,e3,e4]) h
    ·exact .inr (.inr (.inr ⟨e1,e2,e3,e4⟩))
   ·exact .inr (.inr (.inl ⟨e1,e2,e3⟩))
  ·exact .inr (.inl ⟨e1,e2⟩)
 ·exact .inl e1
theorem take_step {α : Type} {a b : List α} {j : Nat} {x : α} (h : a.take j = b.take j) (ha : a[j]? = some x) (hb : b[j]? = some x) : a.take (j + 1) = b.take (j + 1):=by
 rw [List.take_add_one,List.take_add_one,h,ha,hb]
theorem ne_at {α : Type} [DecidableEq α] {a b : List α} {j : Nat} {x y : α} (ha : a[j]? = some x) (hb : b[j]? = some y) (hne : x ≠ y) : decide (a = b) = false:=by
 rw [decide_eq_false_iff_not]
 rintro rfl
 rw [ha] at hb
 exact hne (Option.some.inj hb)
set_option maxHeartbeats 1000000 in
theorem rscG_any (l l2 : List L3.Cp.C) (v u : Value) (w : World) (hv : Kit.IsS 5 w v l.length (l.flatMap L3.cL)) (hu : Kit.IsS 5 w u l2.length (l2.flatMap L3.cL)) :
  Calls Tryz.prog 42 #[v,u] w fun e w'=>e = .returned (.bool (decide (l = l2))) ∧ Below w.heap.size w w':=by
 by_cases hlen2 : l.length = l2.length
 ·have HV:=hid hv
  have HU:=hid hu
  obtain ⟨a1,cap1,hv2⟩:=hv.len
  obtain ⟨a2,cap2,hu2⟩:=hu.len
  rw [← hlen2] at hu2
  subst hv2 hu2
  have hlen:=hv.2.1
  obtain ⟨r,hr⟩ : ∃ r,r = decide (l = l2):=⟨_,rfl⟩
  rw [← hr]
  have HR:=hid hr
  have HL2:=hid hlen2
  clear hv hu hr hlen2
  go_enter Tryz.func42,Tryz.ntmps42
  go_wp2
  go_loopw [5] (fun i wr=>∃ k : Nat,k ≤ l.length ∧ i = .int .i64 k ∧ Hid (l.take k = l2.take k) ∧ Below w.heap.size w wr) (fun i _=>l.length - (intOf i).toNat)
  case atStart=>exact ⟨0,by omega,rfl,rfl,BLw⟩
  case round =>
   obtain ⟨k,hk,rfl,htk,hbl⟩:=hrel
   have hbz:=hbl.size
   by_cases hlt : k < l.length
   ·obtain ⟨x,hx⟩ : ∃ x,l[k]? = some x:=⟨l[k],List.getElem?_eq_getElem hlt⟩
    obtain ⟨y,hy⟩ : ∃ y,l2[k]? = some y:=⟨l2[k]'(by rw [← HL2.out];exact hlt),List.getElem?_eq_getElem _⟩
    obtain ⟨b,o,cap',hv,hb,c0,c1,c2,c3,c4⟩:=L3.c_at (HV.out.below hbl (Nat.le_refl _)) hx
    obtain ⟨rfl,-,rfl⟩:=Value.slice.inj hv
    obtain ⟨b',o',cap',hv',hb',d0,d1,d2,d3,d4⟩:=L3.c_at (HU.out.below hbl (Nat.le_refl _)) hy
    obtain ⟨rfl,-,rfl⟩:=Value.slice.inj hv'
    have i1 : (k : Int) < (l.length : Int):=by omega
    by_cases hxy : x = y
    ·subst hxy
     have hnext:=hid (take_step htk.out hx hy)
     clear hx hy hv hv'
     go_wp2
     go_quiet (fail)
     go_wp2
     go_roundw
     case rel=>exact ⟨k + 1,by omega,by go_num,hnext,BLw⟩
     case measure=>simp [intOf];omega
    ·have HF:=hid (HR.out.trans (ne_at hx hy hxy))
     have hc:=L3.c_ne hxy
     clear hx hy hv hv' hxy
     obtain ⟨xt,xs,xn,xa,xb⟩:=x
     obtain ⟨yt,ys,yn,ya,yb⟩:=y
     dsimp only at c0 d0 c1 d1 c2 d2 c3 d3 c4 d4 hc
     rcases hc with hne|⟨rfl,hne⟩|⟨rfl,rfl,hne⟩|⟨rfl,rfl,rfl,hne⟩|⟨rfl,rfl,rfl,rfl,hne⟩
     all_goals
      go_wp2
      go_quiet (fail)
      go_wp2
      go_ret
      exact ⟨by rw [HF.out];rfl,BLw⟩
   ·obtain rfl : k = l.length:=by omega
    have HF : Hid (r = true):=by
     show r = true
     rw [HR.out,decide_eq_true_iff]
     have:=htk.out
     rwa [List.take_length,HL2.out,List.take_length] at this
    go_wp2
    go_ret
    exact ⟨by rw [HF.out];rfl,BLw⟩
 ·obtain ⟨a1,cap1,hv2⟩:=hv.len
  obtain ⟨a2,cap2,hu2⟩:=hu.len
  subst hv2 hu2
  have hd : ((l.length : Int) != (l2.length : Int)) = true:=by simp;omega
  rw [decide_eq_false (fun e=>hlen2 (by rw [e]))]
  clear hv hu hlen2
  go_enter Tryz.func42,Tryz.ntmps42
  go_wp2
  go_ret
  exact ⟨rfl,BLw⟩
set_option maxHeartbeats 1000000 in
theorem rshG_any (l l2 : List Cf.Hn) (v u : Value) (w : World) (hv : Kit.IsS 4 w v l.length (l.flatMap hL)) (hu : Kit.IsS 4 w u l2.length (l2.flatMap hL)) :
  Calls Tryz.prog 84 #[v,u] w fun e w'=>e = .returned (.bool (decide (l = l2))) ∧ Below w.heap.size w w':=by
 by_cases hlen2 : l.length = l2.length
 ·have HV:=hid hv
  have HU:=hid hu
  obtain ⟨a1,cap1,hv2⟩:=hv.len
  obtain ⟨a2,cap2,hu2⟩:=hu.len
  rw [← hlen2] at hu2
  subst hv2 hu2
  have hlen:=hv.2.1
  obtain ⟨r,hr⟩ : ∃ r,r = decide (l = l2):=⟨_,rfl⟩
  rw [← hr]
  have HR:=hid hr
  have HL2:=hid hlen2
  clear hv hu hr hlen2
  go_enter Tryz.func84,Tryz.ntmps84
  go_wp2
  go_loopw [5] (fun i wr=>∃ k : Nat,k ≤ l.length ∧ i = .int .i64 k ∧ Hid (l.take k = l2.take k) ∧ Below w.heap.size w wr) (fun i _=>l.length - (intOf i).toNat)
  case atStart=>exact ⟨0,by omega,rfl,rfl,BLw⟩
  case round =>
   obtain ⟨k,hk,rfl,htk,hbl⟩:=hrel
   have hbz:=hbl.size
   by_cases hlt : k < l.length
   ·obtain ⟨x,hx⟩ : ∃ x,l[k]? = some x:=⟨l[k],List.getElem?_eq_getElem hlt⟩
    obtain ⟨y,hy⟩ : ∃ y,l2[k]? = some y:=⟨l2[k]'(by rw [← HL2.out];exact hlt),List.getElem?_eq_getElem _⟩
    obtain ⟨b,o,cap',hv,hb,c0,c1,c2,c3⟩:=h_at (HV.out.below hbl (Nat.le_refl _)) hx
    obtain ⟨rfl,-,rfl⟩:=Value.slice.inj hv
    obtain ⟨b',o',cap',hv',hb',d0,d1,d2,d3⟩:=h_at (HU.out.below hbl (Nat.le_refl _)) hy
    obtain ⟨rfl,-,rfl⟩:=Value.slice.inj hv'
    have i1 : (k : Int) < (l.length : Int):=by omega
    by_cases hxy : x = y
    ·subst hxy
     have hnext:=hid (take_step htk.out hx hy)
     clear hx hy hv hv'
     go_wp2
     go_quiet (fail)
     go_wp2
     go_roundw
     case rel=>exact ⟨k + 1,by omega,by go_num,hnext,BLw⟩
     case measure=>simp [intOf];omega
    ·have HF:=hid (HR.out.trans (ne_at hx hy hxy))
     have hc:=h_ne hxy
     clear hx hy hv hv' hxy
     obtain ⟨xf,xt,xa,xy⟩:=x
     obtain ⟨yf,yt,ya,yy⟩:=y
     dsimp only at c0 d0 c1 d1 c2 d2 c3 d3 hc
     rcases hc with hne|⟨rfl,hne⟩|⟨rfl,rfl,hne⟩|⟨rfl,rfl,rfl,hne⟩
     all_goals
      go_wp2
      go_quiet (fail)
      go_wp2
      go_ret
      exact ⟨by rw [HF.out];rfl,BLw⟩
   ·obtain rfl : k = l.length:=by omega
    have HF : Hid (r = true):=by
     show r = true
     rw [HR.out,decide_eq_true_iff]
     have:=htk.out
     rwa [List.take_length,HL2.out,List.take_length] at this
    go_wp2
    go_ret
    exact ⟨by rw [HF.out];rfl,BLw⟩
 ·obtain ⟨a1,cap1,hv2⟩:=hv.len
  obtain ⟨a2,cap2,hu2⟩:=hu.len
  subst hv2 hu2
  have hd : ((l.length : Int) != (l2.length : Int)) = true:=by simp;omega
  rw [decide_eq_false (fun e=>hlen2 (by rw [e]))]
  clear hv hu hlen2
  go_enter Tryz.func84,Tryz.ntmps84
  go_wp2
  go_ret
  exact ⟨rfl,BLw⟩
end Go.Proofs.YtnojgiflgmnjlaaGreatDoor
namespace Go.Proofs.YtnojgiflgmnjlaaGreatDoor
open Go.RowKit
theorem m_ne {x y : Cf.Mb} (h : x ≠ y) : (¬ x.ac = y.ac) ∨ (x.ac = y.ac ∧ ¬ x.nm = y.nm) ∨ (x.ac = y.ac ∧ x.nm = y.nm ∧ ¬ x.ds = y.ds) ∨ (x.ac = y.ac ∧ x.nm = y.nm ∧ x.ds = y.ds ∧ ¬ x.st = y.st) ∨ (x.ac = y.ac ∧ x.nm = y.nm ∧ x.ds = y.ds ∧ x.st = y.st ∧ ¬ x.lc = y.lc) ∨
  (x.ac = y.ac ∧ x.nm = y.nm ∧ x.ds = y.ds ∧ x.st = y.st ∧ x.lc = y.lc ∧ ¬ x.code = y.code) ∨ (x.ac = y.ac ∧ x.nm = y.nm ∧ x.ds = y.ds ∧ x.st = y.st ∧ x.lc = y.lc ∧ x.code = y.code ∧ ¬ x.hs = y.hs):=by
 obtain ⟨a1,a2,a3,a4,a5,a6,a7⟩:=x
 obtain ⟨b1,b2,b3,b4,b5,b6,b7⟩:=y
 dsimp only
 by_cases e1 : a1 = b1
 ·by_cases e2 : a2 = b2
  ·by_cases e3 : a3 = b3
   ·by_cases e4 : a4 = b4
    ·by_cases e5 : a5 = b5
     ·by_cases e6 : a6 = b6
      ·exact .inr (.inr (.inr (.inr (.inr (.inr ⟨e1,e2,e3,e4,e5,e6,fun e7=>h (by rw [e1,e2,e3,e4,e5,e6,e7])⟩)))))
      ·exact .inr (.inr (.inr (.inr (.inr (.inl ⟨e1,e2,e3,e4,e5,e6⟩)))))
     ·exact .inr (.inr (.inr (.inr (.inl ⟨e1,e2,e3,e4,e5⟩))))
    ·exact .inr (.inr (.inr (.inl ⟨e1,e2,e3,e4⟩)))
   ·exact .inr (.inr (.inl ⟨e1,e2,e3⟩))
  ·exact .inr (.inl ⟨e1,e2⟩)
 ·exact .inl e1
def bst (l : List UInt8) : ByteArray:=⟨l.toArray⟩
theorem bst_ne {a b : List UInt8} (h : ¬ a = b) : ((bst a).toList == (bst b).toList) = false:=by
 rw [beq_eq_false_iff_ne,ne_eq,ByteArray.toList_eq,ByteArray.toList_eq]
 unfold bst
 simpa using h
set_option maxHeartbeats 2000000 in
theorem rsmG_any (ms ns : List Cf.Mb) (v u : Value) (w : World) (hv : MsR w v ms) (hu : MsR w u ns) :
  Calls Tryz.prog 43 #[v,u] w fun e w'=>e = .returned (.bool (decide (ms = ns))) ∧ Below w.heap.size w w':=by
 by_cases hlen2 : ms.length = ns.length
 ·have HV:=hid hv
  have HU:=hid hu
  obtain ⟨a1,cap1,hv2⟩:=hv.len
  obtain ⟨a2,cap2,hu2⟩:=hu.len
  rw [← hlen2] at hu2
  subst hv2 hu2
  have hlen:=hv.size
  obtain ⟨r,hr⟩ : ∃ r,r = decide (ms = ns):=⟨_,rfl⟩
  rw [← hr]
  have HR:=hid hr
  have HL2:=hid hlen2
  clear hv hu hr hlen2
  go_enter Tryz.func43,Tryz.ntmps43
  go_wp2
  go_loopw [5] (fun i wr=>∃ k : Nat,k ≤ ms.length ∧ i = .int .i64 k ∧ Hid (ms.take k = ns.take k) ∧ Below w.heap.size w wr) (fun i _=>ms.length - (intOf i).toNat)
  case atStart=>exact ⟨0,by omega,rfl,rfl,BLw⟩
  case round =>
   obtain ⟨k,hk,rfl,htk,hbl⟩:=hrel
   have hbz:=hbl.size
   by_cases hlt : k < ms.length
   ·obtain ⟨x,hx⟩ : ∃ x,ms[k]? = some x:=⟨ms[k],List.getElem?_eq_getElem hlt⟩
    obtain ⟨y,hy⟩ : ∃ y,ns[k]? = some y:=⟨ns[k]'(by rw [← HL2.out];exact hlt),List.getElem?_eq_getElem _⟩
    obtain ⟨b,o,cap',cv,hw,hv2,hbb,hB,hH,hcl,c0,c1,c2,c3,c4,c5,c6⟩:=(HV.out.below hbl (Nat.le_refl _)).at hx
    obtain ⟨b2,o2,cap2',cv2,hw2,hu2,hbb2,hB2,hH2,-,d0,d1,d2,d3,d4,d5,d6⟩:=(HU.out.below hbl (Nat.le_refl _)).at hy
    obtain ⟨rfl,-,rfl⟩:=Value.slice.inj hv2
    obtain ⟨rfl,-,rfl⟩:=Value.slice.inj hu2
    have hki : (k : Int) < (ms.length : Int):=by omega
    have HHs:=hid (fun W (k : Below wr.heap.size wr W)=>rshG_any x.hs y.hs _ _ W (hH.below k (Nat.le_refl _)) (hH2.below k (Nat.le_refl _)))
    obtain ⟨xa,xc,rfl⟩:=hB.len
    obtain ⟨ya,yc,rfl⟩:=hH.len
    obtain ⟨xa2,xc2,rfl⟩:=hB2.len
    obtain ⟨ya2,yc2,rfl⟩:=hH2.len
    have HCv:=hid (fun W (q : Below wr.heap.size wr W)=>(show (convert 22 9 (.slice xa x.code.length xc)).run Tryz.prog W = .ok (.string (bst x.code)) W ∧ (convert 22 9 (.slice xa2 y.code.length xc2)).run Tryz.prog W = .ok (.string (bst y.code)) W from ⟨L3.bs_conv ((hB.below q (Nat.le_refl _)).mono q.size),L3.bs_conv ((hB2.below q (Nat.le_refl _)).mono q.size)⟩))
    have HHd:=hid (show decide (x.hs = y.hs) = decide (x.hs = y.hs) from rfl)
    by_cases hxy : x = y
    ·subst hxy
     have hnext:=hid (take_step htk.out hx hy)
     obtain ⟨ac,nm,ds,st,lc,co,hs9⟩:=x
     dsimp only at c0 c1 c2 c3 c4 c5 c6 d0 d1 d2 d3 d4 d5 d6 HHs HCv
     obtain ⟨s,hs⟩ : ∃ s,s = bst co:=⟨_,rfl⟩
     rw [← hs] at HCv
     have B7 : Below wr.heap.size wr ((wr.alloc (.cells #[.int .i64 ac,.int .i64 nm,.int .i64 ds,.int .i64 st,.int .i64 lc,.slice xa co.length xc,.slice ya hs9.length yc] 42)).alloc (.cells #[.int .i64 ac,.int .i64 nm,.int .i64 ds,.int .i64 st,.int .i64 lc,.slice xa2 co.length xc2,.slice ya2 hs9.length yc2] 42)):=BLw
     obtain ⟨hv7,hu7⟩:=HCv.out _ B7
     have hdd : decide (hs9 = hs9) = true:=decide_eq_true rfl
     rw [hdd] at HHs
     clear hx hy hv2 hu2 hB hH hB2 hH2 hcl HHd hs hdd
     go_wp2_with (go_at_call 84;refine (HHs.out _ B7).mono ?_;rintro e W8 ⟨rfl,hb8⟩;have B8:=belows B7 hb8 B7.size)
     go_roundw
     case rel=>exact ⟨k + 1,by omega,by go_num,hnext,belows hbl B8 hbz⟩
     case measure=>simp [intOf];omega
    ·have HF:=hid (HR.out.trans (ne_at hx hy hxy))
     have hc:=m_ne hxy
     clear hx hy hv2 hu2 hB hH hB2 hH2 hcl HHd hxy
     obtain ⟨ac,nm,ds,st,lc,co,hs9⟩:=x
     obtain ⟨ac',nm',ds',st',lc',co',hs9'⟩:=y
     dsimp only at c0 c1 c2 c3 c4 c5 c6 d0 d1 d2 d3 d4 d5 d6 HHs HCv hc
     have B7 : Below wr.heap.size wr ((wr.alloc (.cells #[.int .i64 ac,.int .i64 nm,.int .i64 ds,.int .i64 st,.int .i64 lc,.slice xa co.length xc,.slice ya hs9.length yc] 42)).alloc (.cells #[.int .i64 ac',.int .i64 nm',.int .i64 ds',.int .i64 st',.int .i64 lc',.slice xa2 co'.length xc2,.slice ya2 hs9'.length yc2] 42)):=BLw
     rcases hc with hne|⟨rfl,hne⟩|⟨rfl,rfl,hne⟩|⟨rfl,rfl,rfl,hne⟩|⟨rfl,rfl,rfl,rfl,hne⟩|⟨rfl,rfl,rfl,rfl,rfl,hne⟩|⟨rfl,rfl,rfl,rfl,rfl,rfl,hne⟩
     rotate_left 5
     ·obtain ⟨hv7,hu7⟩:=HCv.out _ B7
      have hb:=bst_ne hne
      obtain ⟨s,hs⟩ : ∃ s,s = bst co:=⟨_,rfl⟩
      obtain ⟨t,ht⟩ : ∃ s,s = bst co':=⟨_,rfl⟩
      rw [← hs] at hv7 hb
      rw [← ht] at hu7 hb
      clear HCv hs ht hne
      go_wp2
      go_ret
      exact ⟨by rw [HF.out];rfl,belows hbl B7 hbz⟩
     ·obtain ⟨hv7,hu7⟩:=HCv.out _ B7
      obtain ⟨s,hs⟩ : ∃ s,s = bst co:=⟨_,rfl⟩
      rw [← hs] at hv7 hu7
      rw [decide_eq_false hne] at HHs
      clear HCv hs hne
      go_wp2_with (go_at_call 84;refine (HHs.out _ B7).mono ?_;rintro e W8 ⟨rfl,hb8⟩;have B8:=belows B7 hb8 B7.size)
      go_ret
      exact ⟨by rw [HF.out];rfl,belows hbl B8 hbz⟩
     all_goals
      clear HCv
      go_wp2
      go_ret
      exact ⟨by rw [HF.out];rfl,belows hbl B7 hbz⟩
   ·obtain rfl : k = ms.length:=by omega
    have HF : Hid (r = true):=by
     show r = true
     rw [HR.out,decide_eq_true_iff]
     have:=htk.out
     rwa [List.take_length,HL2.out,List.take_length] at this
    go_wp2
    go_ret
    exact ⟨by rw [HF.out];rfl,BLw⟩
 ·obtain ⟨a1,cap1,hv2⟩:=hv.len
  obtain ⟨a2,cap2,hu2⟩:=hu.len
  subst hv2 hu2
  have hd : ((ms.length : Int) != (ns.length : Int)) = true:=by simp;omega
  rw [decide_eq_false (fun e=>hlen2 (by rw [e]))]
  clear hv hu hlen2
  go_enter Tryz.func43,Tryz.ntmps43
  go_wp2
  go_ret
  exact ⟨rfl,BLw⟩
end Go.Proofs.YtnojgiflgmnjlaaGreatDoor
namespace Go.Proofs.YtnojgiflgmnjlaaGreatDoor
open Go.RowKit
theorem two_cl {x y : Cf.Cl} (h : x ≠ y) : (¬ x.mi = y.mi) ∨ (x.mi = y.mi ∧ ¬ x.ma = y.ma) ∨ (x.mi = y.mi ∧ x.ma = y.ma ∧ ¬ x.ac = y.ac) ∨ (x.mi = y.mi ∧ x.ma = y.ma ∧ x.ac = y.ac ∧ ¬ x.th = y.th) ∨ (x.mi = y.mi ∧ x.ma = y.ma ∧ x.ac = y.ac ∧ x.th = y.th ∧ ¬ x.su = y.su) ∨ (x.mi = y.mi ∧ x.ma = y.ma ∧ x.ac = y.ac ∧ x.th = y.th ∧ x.su = y.su ∧ ¬ x.pool = y.pool) ∨ (x.mi = y.mi ∧ x.ma = y.ma ∧ x.ac = y.ac ∧ x.th = y.th ∧ x.su = y.su ∧ x.pool = y.pool ∧ ¬ x.fs = y.fs) ∨ (x.mi = y.mi ∧ x.ma = y.ma ∧ x.ac = y.ac ∧ x.th = y.th ∧ x.su = y.su ∧ x.pool = y.pool ∧ x.fs = y.fs ∧ ¬ x.ms = y.ms):=by
 obtain ⟨a1,a2,a6,a3,a4,a5,a7,a8⟩:=x
 obtain ⟨b1,b2,b6,b3,b4,b5,b7,b8⟩:=y
 dsimp only
 by_cases e1 : a1 = b1
 ·by_cases e2 : a2 = b2
  ·by_cases e3 : a3 = b3
   ·by_cases e4 : a4 = b4
    ·by_cases e5 : a5 = b5
     ·by_cases e6 : a6 = b6
      ·by_cases e7 : a7 = b7
       ·exact .inr (.inr (.inr (.inr (.inr (.inr (.inr (⟨e1,e2,e3,e4,e5,e6,e7,fun e8=>h (by rw [e1,e2,e3,e4,e5,e6,e7,e8])⟩)))))))
       ·exact .inr (.inr (.inr (.inr (.inr (.inr (.inl ⟨e1,e2,e3,e4,e5,e6,e7⟩))))))
      ·exact .inr (.inr (.inr (.inr (.inr (.inl ⟨e1,e2,e3,e4,e5,e6⟩)))))
     ·exact .inr (.inr (.inr (.inr (.inl ⟨e1,e2,e3,e4,e5⟩))))
    ·exact .inr (.inr (.inr (.inl ⟨e1,e2,e3,e4⟩)))
   ·exact .inr (.inr (.inl ⟨e1,e2,e3⟩))
  ·exact .inr (.inl ⟨e1,e2⟩)
 ·exact .inl e1
set_option maxHeartbeats 2000000 in
theorem rsameG_any (x y : Cf.Cl) (vs us : Array Value) (w : World) (hv : ClR w vs x) (hu : ClR w us y) :
  Calls Tryz.prog 14 #[.agg vs,.agg us] w fun e w'=>e = .returned (.bool (decide (x = y))) ∧ Below w.heap.size w w':=by
 obtain ⟨pv,fv,mv,rfl,hp,hf,hm⟩:=hv
 obtain ⟨qv,gv,nv,rfl,kp,kf,km⟩:=hu
 have HP':=fun W (k : Below w.heap.size w W)=>rscG_any x.pool y.pool pv qv W (hp.below k (Nat.le_refl _)) (kp.below k (Nat.le_refl _))
 have HF':=fun W (k : Below w.heap.size w W)=>rsmG_any x.fs y.fs fv gv W (hf.below k (Nat.le_refl _)) (kf.below k (Nat.le_refl _))
 have HM':=fun W (k : Below w.heap.size w W)=>rsmG_any x.ms y.ms mv nv W (hm.below k (Nat.le_refl _)) (km.below k (Nat.le_refl _))
 obtain ⟨pa,pc,rfl⟩:=hp.len
 obtain ⟨fa,fc,rfl⟩:=hf.len
 obtain ⟨ma2,mc,rfl⟩:=hm.len
 obtain ⟨pa',pc',rfl⟩:=kp.len
 obtain ⟨fa',fc',rfl⟩:=kf.len
 obtain ⟨ma2',mc',rfl⟩:=km.len
 clear hp hf hm kp kf km
 obtain ⟨r,hr⟩ : ∃ r,r = decide (x = y):=⟨_,rfl⟩
 rw [← hr]
 have hc : (x = y) ∨ _:=(Decidable.em (x = y)).imp id two_cl
 obtain ⟨mi,ma,P,ac,th,su,fs,ms⟩:=x
 obtain ⟨mi',ma',P',ac',th',su',fs',ms'⟩:=y
 dsimp only at hc HP' HF' HM' ⊢
 rcases hc with hc|hne|⟨rfl,hne⟩|⟨rfl,rfl,hne⟩|⟨rfl,rfl,rfl,hne⟩|⟨rfl,rfl,rfl,rfl,hne⟩|⟨rfl,rfl,rfl,rfl,rfl,hne⟩|⟨rfl,rfl,rfl,rfl,rfl,rfl,hne⟩|⟨rfl,rfl,rfl,rfl,rfl,rfl,rfl,hne⟩
 ·cases hc
  obtain rfl : r = true:=by rw [hr];simp
  rw [decide_eq_true rfl] at HP' HF' HM'
  have HP:=hid HP'
  have HF:=hid HF'
  have HM:=hid HM'
  clear hr HP' HF' HM'
  go_enter Tryz.func14,Tryz.ntmps14
  go_wp2_with (first|(go_at_call 42;refine (HP.out _ BLw).mono ?_;rintro e w1 ⟨rfl,hb1⟩;obtain ⟨bC,bD,hz1,B1⟩:=boxes2 hb1;have q6:=bC.cell 6;have r6:=bD.cell 6;have q7:=bC.cell 7;have r7:=bD.cell 7;simp at q6 q7 r6 r7;have bC1:=bC;have bD1:=bD;clear hb1)|(go_at_call 43;have _g:=B2;refine (HM.out _ B2).mono ?_;rintro e w3 ⟨rfl,hb3⟩;have B3:=belows B2 hb3 B2.size)|(go_at_call 43;refine (HF.out _ B1).mono ?_;rintro e w2 ⟨rfl,hb2⟩;have B2:=belows B1 hb2 B1.size;have bC:=bC1.below hb2 bC1.sz;have bD:=bD1.below hb2 bD1.sz;have q7:=bC.cell 7;have r7:=bD.cell 7;simp at q7 r7))
  all_goals go_ret
  all_goals exact ⟨rfl,by first|exact B3|exact B2|exact B1⟩
 rotate_left 5
 ·obtain rfl : r = false:=by rw [hr];simp [hne]
  rw [decide_eq_false hne] at HP'
  have HP:=hid HP'
  have HF:=hid HF'
  have HM:=hid HM'
  clear hr HP' HF' HM' hne
  go_enter Tryz.func14,Tryz.ntmps14
  go_wp2_with (first|(go_at_call 42;refine (HP.out _ BLw).mono ?_;rintro e w1 ⟨rfl,hb1⟩;obtain ⟨bC,bD,hz1,B1⟩:=boxes2 hb1;have q6:=bC.cell 6;have r6:=bD.cell 6;have q7:=bC.cell 7;have r7:=bD.cell 7;simp at q6 q7 r6 r7;have bC1:=bC;have bD1:=bD;clear hb1)|(go_at_call 43;have _g:=B2;refine (HM.out _ B2).mono ?_;rintro e w3 ⟨rfl,hb3⟩;have B3:=belows B2 hb3 B2.size)|(go_at_call 43;refine (HF.out _ B1).mono ?_;rintro e w2 ⟨rfl,hb2⟩;have B2:=belows B1 hb2 B1.size;have bC:=bC1.below hb2 bC1.sz;have bD:=bD1.below hb2 bD1.sz;have q7:=bC.cell 7;have r7:=bD.cell 7;simp at q7 r7))
  all_goals go_ret
  all_goals exact ⟨rfl,B1⟩
 ·obtain rfl : r = false:=by rw [hr];simp [hne]
  rw [decide_eq_true rfl] at HP'
  rw [decide_eq_false hne] at HF'
  have HP:=hid HP'
  have HF:=hid HF'
  have HM:=hid HM'
  clear hr HP' HF' HM' hne
  go_enter Tryz.func14,Tryz.ntmps14
  go_wp2_with (first|(go_at_call 42;refine (HP.out _ BLw).mono ?_;rintro e w1 ⟨rfl,hb1⟩;obtain ⟨bC,bD,hz1,B1⟩:=boxes2 hb1;have q6:=bC.cell 6;have r6:=bD.cell 6;have q7:=bC.cell 7;have r7:=bD.cell 7;simp at q6 q7 r6 r7;have bC1:=bC;have bD1:=bD;clear hb1)|(go_at_call 43;have _g:=B2;refine (HM.out _ B2).mono ?_;rintro e w3 ⟨rfl,hb3⟩;have B3:=belows B2 hb3 B2.size)|(go_at_call 43;refine (HF.out _ B1).mono ?_;rintro e w2 ⟨rfl,hb2⟩;have B2:=belows B1 hb2 B1.size;have bC:=bC1.below hb2 bC1.sz;have bD:=bD1.below hb2 bD1.sz;have q7:=bC.cell 7;have r7:=bD.cell 7;simp at q7 r7))
  all_goals go_ret
  all_goals exact ⟨rfl,B2⟩
 ·obtain rfl : r = false:=by rw [hr];simp [hne]
  rw [decide_eq_true rfl] at HP'
  rw [decide_eq_true rfl] at HF'
  rw [decide_eq_false hne] at HM'
  have HP:=hid HP'
  have HF:=hid HF'
  have HM:=hid HM'
  clear hr HP' HF' HM' hne
  go_enter Tryz.func14,Tryz.ntmps14
  go_wp2_with (first|(go_at_call 42;refine (HP.out _ BLw).mono ?_;rintro e w1 ⟨rfl,hb1⟩;obtain ⟨bC,bD,hz1,B1⟩:=boxes2 hb1;have q6:=bC.cell 6;have r6:=bD.cell 6;have q7:=bC.cell 7;have r7:=bD.cell 7;simp at q6 q7 r6 r7;have bC1:=bC;have bD1:=bD;clear hb1)|(go_at_call 43;have _g:=B2;refine (HM.out _ B2).mono ?_;rintro e w3 ⟨rfl,hb3⟩;have B3:=belows B2 hb3 B2.size)|(go_at_call 43;refine (HF.out _ B1).mono ?_;rintro e w2 ⟨rfl,hb2⟩;have B2:=belows B1 hb2 B1.size;have bC:=bC1.below hb2 bC1.sz;have bD:=bD1.below hb2 bD1.sz;have q7:=bC.cell 7;have r7:=bD.cell 7;simp at q7 r7))
  all_goals go_ret
  all_goals exact ⟨rfl,B3⟩
 all_goals
  obtain rfl : r = false:=by rw [hr];simp [hne]
  clear hr HP' HF' HM'
  go_enter Tryz.func14,Tryz.ntmps14
  go_wp2
  all_goals go_ret
  all_goals exact ⟨rfl,BLw⟩
end Go.Proofs.YtnojgiflgmnjlaaGreatDoor
namespace Go.Proofs.YtnojgiflgmnjlaaGreatDoor
open Go.RowKit
theorem two {w : World} {c0 c1 : Array Value} {T0 T1 : TypeId} {W : World} (h : W = (w.alloc (.cells c0 T0)).alloc (.cells c1 T1)) :
  L3.BX W w.heap.size c0 T0 ∧ L3.BX W (w.heap.size + 1) c1 T1 ∧ W.heap.size = w.heap.size + 2 ∧ Below w.heap.size w W:=by
 subst h
 have b0:=BX.al (L3.BX.new w c0 T0) (.cells c1 T1)
 have b1:=L3.BX.new (w.alloc (.cells c0 T0)) c1 T1
 simp only [World.size_alloc] at b1
 exact ⟨b0,b1,by simp only [World.size_alloc],BLw⟩
end Go.Proofs.YtnojgiflgmnjlaaGreatDoor
namespace Go.Proofs.YtnojgiflgmnjlaaGreatDoor
open Go Go.RowKit
def Ans (P : Cf.Cl → Int → Prop) (w : World) (e : Ending) (w' : World) : Prop :=
 ∃ x er i0 i1 i2 i3 i4 pa np pc fa nf fc ma nm mc,P x er ∧ e = .returned (.tuple #[.agg #[.int .i64 i0,.int .i64 i1,.slice pa np pc,.int .i64 i2,.int .i64 i3,.int .i64 i4,.slice fa nf fc,.slice ma nm mc],.int .i64 er]) ∧
  ClR w' #[.int .i64 i0,.int .i64 i1,.slice pa np pc,.int .i64 i2,.int .i64 i3,.int .i64 i4,.slice fa nf fc,.slice ma nm mc] x ∧ Below w.heap.size w w'
theorem Ans.of {P : Cf.Cl → Int → Prop} {w w' : World} {e : Ending} {x : Cf.Cl} {er : Int} {vs : Array Value} (h1 : P x er) (h2 : e = .returned (.tuple #[.agg vs,.int .i64 er])) (h3 : ClR w' vs x) (h4 : Below w.heap.size w w') : Ans P w e w':=by
 obtain ⟨pv,fv,mv,rfl,hp,hf,hm⟩:=h3
 have h3 : ClR w' _ x:=⟨pv,fv,mv,rfl,hp,hf,hm⟩
 obtain ⟨pa,pc,rfl⟩:=hp.len
 obtain ⟨fa,fc,rfl⟩:=hf.len
 obtain ⟨ma,mc,rfl⟩:=hm.len
 exact ⟨x,er,_,_,_,_,_,_,_,_,_,_,_,_,_,_,h1,h2,h3,h4⟩
def WtR (mk : List L3.Cp.C → Cf.Mb → Cf.Cl) (c : Cf.Cl) (m : Cf.Mb) (a b : ByteArray) (x : Cf.Cl) (er : Int) : Prop :=
 ∃ l1 i1 e1 l2 i2 e2,AdS c.pool 0 ⟨1,a,0,0,0⟩ l1 i1 e1 ∧ AdS l1 e1 ⟨1,b,0,0,0⟩ l2 i2 e2 ∧
  ((e2 ≠ 0 ∧ x = Cf.K0 ∧ er = e2) ∨ (e2 = 0 ∧ ∃ e3,Cf.ClIs (mk l2 { m with nm:=(i1 : Nat),ds:=(i2 : Nat) }) e3 ∧ ((e3 = 0 ∧ x = mk l2 { m with nm:=(i1 : Nat),ds:=(i2 : Nat) } ∧ er = 0) ∨ (e3 ≠ 0 ∧ x = Cf.K0 ∧ er = e3))))
theorem WtR.det {mk : List L3.Cp.C → Cf.Mb → Cf.Cl} {c : Cf.Cl} {m : Cf.Mb} {a b : ByteArray} {x y : Cf.Cl} {e f : Int} (h : WtR mk c m a b x e) (k : WtR mk c m a b y f) : x = y ∧ e = f:=by
 obtain ⟨l1,i1,e1,l2,i2,e2,h1,h2,h3⟩:=h
 obtain ⟨l1',i1',e1',l2',i2',e2',k1,k2,k3⟩:=k
 obtain ⟨rfl,rfl,rfl⟩:=h1.det k1
 obtain ⟨rfl,rfl,rfl⟩:=h2.det k2
 rcases h3 with ⟨hz,rfl,rfl⟩|⟨hz,e3,hc,h4⟩ <;> rcases k3 with ⟨kz,rfl,rfl⟩|⟨kz,e3',kc,k4⟩
 ·exact ⟨rfl,rfl⟩
 ·exact absurd kz hz
 ·exact absurd hz kz
 ·obtain rfl:=Cf.ClIs.det hc kc
  rcases h4 with ⟨h5,rfl,rfl⟩|⟨h5,rfl,rfl⟩ <;> rcases k4 with ⟨k5,rfl,rfl⟩|⟨k5,rfl,rfl⟩
  all_goals first|exact ⟨rfl,rfl⟩|exact absurd h5 k5|exact absurd k5 h5
end Go.Proofs.YtnojgiflgmnjlaaGreatDoor
namespace Go.Proofs.YtnojgiflgmnjlaaGreatDoor
open Go Go.RowKit
set_option maxHeartbeats 4000000 in
theorem decodes_law (P : Cf.Cl → Int → Prop) (D : ∀ {x y e f},P x e → P y f → x = y ∧ e = f) (v : Value) (w : World) (t1 : L1.Tabs w) (t3 : L3.Tabs w)
  (h1 : ∀ W,Below w.heap.size w W → Calls Tryz.prog 11 #[v] W (Ans P W))
  (h2 : ∀ W,Below w.heap.size w W → Calls Tryz.prog 12 #[v] W (Ans P W)) :
  Calls Tryz.prog 3 #[v] w fun e w'=>e = .returned (.bool true) ∧ Below w.heap.size w w':=by
 have HT:=hid (And.intro t1 t3)
 have H2:=hid h2
 have H1:=hid (h1 w (Below.refl _ _))
 clear t1 t3 h1 h2
 go_enter Tryz.func3,Tryz.ntmps3
 go_wp2_with fail
 refine H1.out.mono ?_
 rintro e w1 ⟨x1,er1,i10,i11,i12,i13,i14,pa1,np1,pc1,fa1,nf1,fc1,mq1,nm1,mc1,hP,rfl,hR,hb⟩
 have HP1:=hid hP
 have HBw_:=hid hb
 have HR_:=hid hR
 clear hP hR hb
 go_wp2_with fail
 obtain ⟨W2,hW⟩ : ∃ W,W = w1.alloc (.cells #[.int .i64 i10,.int .i64 i11,.slice pa1 np1 pc1,.int .i64 i12,.int .i64 i13,.int .i64 i14,.slice fa1 nf1 fc1,.slice mq1 nm1 mc1] 26):=⟨_,rfl⟩
 rw [← hW]
 have hbn : Below w1.heap.size w1 W2:=by rw [hW];exact (Below.refl _ _).alloc (Nat.le_refl _) _
 have K1_2:=hid (show L3.BX W2 w1.heap.size #[.int .i64 i10,.int .i64 i11,.slice pa1 np1 pc1,.int .i64 i12,.int .i64 i13,.int .i64 i14,.slice fa1 nf1 fc1,.slice mq1 nm1 mc1] 26 by rw [hW];exact L3.BX.new _ _ _)
 have R1_2:=hid (HR_.out.below hbn (Nat.le_refl _))
 have HB2:=hid (belows HBw_.out hbn HBw_.out.size)
 clear hW hbn HR_ HBw_
 refine (H2.out W2 HB2.out).mono ?_
 rintro e w2 ⟨y,f,i20,i21,i22,i23,i24,pa2,np2,pc2,fa2,nf2,fc2,mq2,nm2,mc2,hP,rfl,hR,hb⟩
 obtain ⟨rfl,rfl⟩:=D HP1.out hP
 have HBw_:=hid (belows HB2.out hb HB2.out.size)
 have K1_:=hid (K1_2.out.below hb K1_2.out.sz)
 have R1_:=hid (R1_2.out.below hb (Nat.le_refl _))
 have HR_:=hid hR
 clear hP hR hb
 go_wp2_with fail
 obtain ⟨W3,hW⟩ : ∃ W,W = w2.alloc (.cells #[.int .i64 i20,.int .i64 i21,.slice pa2 np2 pc2,.int .i64 i22,.int .i64 i23,.int .i64 i24,.slice fa2 nf2 fc2,.slice mq2 nm2 mc2] 26):=⟨_,rfl⟩
 rw [← hW]
 have hbn : Below w2.heap.size w2 W3:=by rw [hW];exact (Below.refl _ _).alloc (Nat.le_refl _) _
 have K2_3:=hid (show L3.BX W3 w2.heap.size #[.int .i64 i20,.int .i64 i21,.slice pa2 np2 pc2,.int .i64 i22,.int .i64 i23,.int .i64 i24,.slice fa2 nf2 fc2,.slice mq2 nm2 mc2] 26 by rw [hW];exact L3.BX.new _ _ _)
 have R2_3:=hid (HR_.out.below hbn (Nat.le_refl _))
 have HB3:=hid (belows HBw_.out hbn HBw_.out.size)
 have K1_3:=hid (K1_.out.below hbn K1_.out.sz)
 have R1_3:=hid (R1_.out.below hbn (Nat.le_refl _))
 clear hW hbn HR_ HBw_ K1_ R1_ K1_2 R1_2 HB2
 refine (begun_any _ (HT.out.1.below HB3.out HT.out.1.size) (HT.out.2.below HB3.out HT.out.2.size)).mono ?_
 rintro e v7 ⟨rfl,hb⟩
 have HB8:=hid (belows HB3.out hb HB3.out.size)
 have K1_8:=hid (K1_3.out.below hb K1_3.out.sz)
 have R1_8:=hid (R1_3.out.below hb (Nat.le_refl _))
 have K2_8:=hid (K2_3.out.below hb K2_3.out.sz)
 have R2_8:=hid (R2_3.out.below hb (Nat.le_refl _))
 clear hb K1_3 R1_3 K2_3 R2_3
 have b1:=K1_8.out
 have z10:=b1.cell 0;have z11:=b1.cell 1;have z12:=b1.cell 2;have z13:=b1.cell 3;have z14:=b1.cell 4;have z15:=b1.cell 5;have z16:=b1.cell 6;have z17:=b1.cell 7;simp at z10 z11 z12 z13 z14 z15 z16 z17
 have b2:=K2_8.out
 have z20:=b2.cell 0;have z21:=b2.cell 1;have z22:=b2.cell 2;have z23:=b2.cell 3;have z24:=b2.cell 4;have z25:=b2.cell 5;have z26:=b2.cell 6;have z27:=b2.cell 7;simp at z20 z21 z22 z23 z24 z25 z26 z27
 clear b1 b2
 go_wp2_with fail
 clear z10 z11 z12 z13 z14 z15 z16 z17 z20 z21 z22 z23 z24 z25 z26 z27
 refine (rsameG_any x1 x1 _ _ _ R1_8.out R2_8.out).mono ?_
 rintro e v8 ⟨rfl,hb⟩
 rw [decide_eq_true rfl]
 have HB9:=hid (belows HB8.out hb HB8.out.size)
 clear hb
 go_wp2
 go_ret
 exact ⟨rfl,HB9.out⟩
theorem DcPost.ans {bs : List UInt8} {w : World} {e : Ending} {w' : World} (h : DcPost bs w e w') : Ans (Cf.DcIs bs) w e w':=by
 obtain ⟨c,er,vs,h1,rfl,h2,-,-,hb⟩:=h
 exact Ans.of h1 rfl h2 hb
theorem RdPost.ans {bs : List UInt8} {w : World} {e : Ending} {w' : World} (h : RdPost bs w e w') : Ans (Cf.DcIs bs) w e w':=by
 obtain ⟨c,er,vs,h1,rfl,h2,hb⟩:=h
 exact Ans.of h1 rfl h2 hb
theorem decodes_full (bs : List UInt8) (v : Value) (w : World) (t1 : L1.Tabs w) (t3 : L3.Tabs w) (hv : L3.Bs w.heap.size w v bs) :
  Calls Tryz.prog 3 #[v] w fun e w'=>e = .returned (.bool true) ∧ Below w.heap.size w w' :=
 decodes_law (Cf.DcIs bs) (fun h k=>h.det k) v w t1 t3
  (fun W k=>(decode_any bs v W (t1.below k t1.size) (t3.below k t3.size) ((hv.below k (Nat.le_refl _)).mono k.size)).mono fun _ _ h=>h.ans)
  (fun W k=>(rdecode_any bs v W ((hv.below k (Nat.le_refl _)).mono k.size)).mono fun _ _ h=>h.ans)
end Go.Proofs.YtnojgiflgmnjlaaGreatDoor
namespace Go.Proofs.YtnojgiflgmnjlaaGreatDoor
open Go.ChangeShapes Go.WideShapes Go.ChangeAt Go.RowKit Go.WideMaps Go.WideElems
section
variable {H : Type} {enc : TypeId × Value → H}
theorem bulk_pos (d : DataW H) : 1 ≤ Rows.uptoBulk d:=by
 cases d with
 | lit l=>cases l <;> simp [Rows.uptoBulk]
 | _=>simp [Rows.uptoBulk]
theorem bulk_len : ∀ l : List (DataW H),l.length ≤ Rows.uptoBulkAll l
 | []=>by simp [Rows.uptoBulkAll]
 | x :: r=>by have h1:=bulk_pos x;have h2:=bulk_len r;simp only [Rows.uptoBulkAll,List.length_cons];omega
theorem A.cellsU8 : Tryz.prog.cellsOf 5 = 1:=by kernel_rfl
theorem A.bytesU8 : Tryz.prog.bytesOf 5 = 1:=by kernel_rfl
theorem bs_cell {W : World} {n : Nat} {k : Value} {y : DataW H × List MemPlace} (h : DataW.trod enc Tryz.prog W 0 (fun _=>true) true n 22 [k] = some y) (hw : (y.1.weights Tryz.prog 22).all (·≤ reachBytes) = true) :
  ∃ bs : List UInt8,L3.Bs W.heap.size W k bs ∧ bs.length ≤ 140737488351232 ∧ bs.length ≤ Rows.uptoBulk y.1:=by
 rcases open_ints Tryz.underlying22 Tryz.underlying5 A.cellsU8 h with ⟨hcs,rfl⟩|⟨a,len,cap,zs,hcs,_,hl,hm,hz,rfl,hcell,hwz⟩
 ·obtain rfl : k = .slice none 0 0:=by simpa using hcs
  exact ⟨[],⟨by simp,.inl ⟨rfl,none,0,rfl⟩⟩,by simp,by simp⟩
 ·obtain rfl : k = .slice (some a) len cap:=by simpa using hcs
  simp only [if_true] at hz
  simp only [DataW.weights,Tryz.underlying22,List.all_cons,Bool.and_eq_true,decide_eq_true_eq,A.bytesU8,Nat.mul_one] at hw
  have hcap : cap ≤ 140737488351232:=by
   have:=hw.1
   simp [lits,reachBytes] at this
   omega
  have hbl : len ≤ Rows.uptoBulk (.slice (lits .u8 (zs.take len)) (lits .u8 (zs.drop len)) : DataW H):=by
   have:=bulk_len (lits (H:=H) .u8 (zs.take len))
   simp only [Rows.uptoBulk]
   simp [lits] at this ⊢
   omega
  refine ⟨(zs.take len).map fun z=>UInt8.ofNat z.toNat,⟨by simp;omega,?_⟩,by simp;omega,by simp only [List.length_map,List.length_take];omega⟩
  have hlen : ((zs.take len).map fun z=>UInt8.ofNat z.toNat).length = len:=by simp;omega
  by_cases h0 : len = 0
  ·exact .inl ⟨by rw [h0];rfl,some a,cap,by rw [h0]⟩
  ·obtain ⟨b,off,rfl,hc⟩:=ints_at hcell (by omega)
   refine .inr ⟨b,off,cap,by rw [hlen],by rw [hlen];exact hl,?_,fun i c hi=>?_⟩
   ·exact World.block_lt_of_cell? W _ (hc 0 (by omega))
   ·have hil : i < len:=by
     rw [List.getElem?_eq_some_iff] at hi
     have:=hi.1
     omega
    rw [show W.cell? ⟨b,off + i,none⟩ = _ from hc i (by omega)]
    have hzi : zs[i]? = some (zs.getD i 0):=by simp [show i < zs.length by omega]
    have h1:=bounds_u8 (hwz _ (List.mem_of_getElem? hzi))
    rw [List.getElem?_map,List.getElem?_take_of_lt hil,hzi] at hi
    simp only [Option.map_some,Option.some.injEq] at hi
    subst hi
    unfold L3.bv
    rw [UInt8.toNat_ofNat']
    congr 3
    omega
end
end Go.Proofs.YtnojgiflgmnjlaaGreatDoor
namespace Go.Proofs.YtnojgiflgmnjlaaGreatDoor
open Go.ChangeShapes Go.WideShapes Go.ChangeAt Go.RowKit Go.WideMaps Go.WideElems
set_option maxRecDepth 100000
section
variable {H : Type} {enc : TypeId × Value → H}
theorem open_bs {W : World} {v : Value} {d : DataW H} {ps : List MemPlace} {base : Nat}
  (hok : Value.okWide Tryz.prog W .any base 22 v) (h : DataW.Trod enc Tryz.prog W 0 (fun _=>true) true 22 v d ps) (hw : (d.weights Tryz.prog 22).all (·≤ reachBytes) = true) : ∃ bs : List UInt8,L3.Bs W.heap.size W v bs ∧ bs.length ≤ 140737488351232 ∧ bs.length ≤ Rows.uptoBulk d:=by
 obtain ⟨a0,len,cap,rfl⟩:=okWide_slice Tryz.underlying22 hok
 obtain ⟨fuel,hf⟩:=h
 exact bs_cell (y:=(d,ps)) hf hw
end
end Go.Proofs.YtnojgiflgmnjlaaGreatDoor
