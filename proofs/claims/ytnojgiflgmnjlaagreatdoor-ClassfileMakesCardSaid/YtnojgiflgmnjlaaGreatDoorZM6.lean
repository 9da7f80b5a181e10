/- Own texts for the claim, part 6. -/
import Derived.Test.YtnojgiflgmnjlaaGreatDoorZM5
import Derived.Lib.AppendStr
import Derived.Sort.BigQuietIn
import Derived.OwnWalkIn
import Derived.RangeFuncNested
import Derived.RangeFuncBound
import Derived.RangeFuncCalls
import Derived.RangeFuncLeaves
import Derived.Shelf.Abstract
import Derived.Shelf.RegionOpen
import Derived.TacticsInMore
import Derived.LoopNIn
import Derived.LoopIn
set_option maxRecDepth 100000
namespace Go.Proofs.YtnojgiflgmnjlaaGreatDoor.L1
open Go.RowKit
theorem rone_any (bs : List UInt8) (v : Value) (p : Int) (w : World) (hb : IsB w v bs) :
  Calls Tryz.prog 195 #[v,.int .i64 p] w fun e w'=>e = .returned (oneV (Op1.one bs p)) ∧ Below w.heap.size w w':=by
 unfold Op1.one
 by_cases h0 : p < 0 ∨ (bs.length : Int) ≤ p
 ·rw [if_pos h0]
  obtain ⟨a,cap,rfl⟩:=hb.len
  exact rone_out a _ cap p w h0
 ·rw [if_neg h0]
  obtain ⟨k,rfl⟩:=Int.eq_ofNat_of_zero_le (show 0 ≤ p by omega)
  have hk : k < bs.length:=by omega
  have hn:=hb.1
  rcases hb.2 with ⟨rfl,-⟩|⟨b,o,cap,rfl,hcap,hlt,hc⟩
  ·simp at hk
  ·have hc0:=hc k hk
   simp only [Int.toNat_natCast]
   have h8:=Op1.at8_lt bs k
   by_cases hop : Op1.isOp (Op1.at8 bs k) = false
   ·rw [if_pos hop]
    exact rone_noop b o _ cap k _ w hk h8 hc0 hop
   ·rw [if_neg hop]
    have hop' : Op1.isOp (Op1.at8 bs k) = true:=by simpa using hop
    have hf8:=Op1.formOf_le (Op1.at8 bs k)
    obtain ⟨f,hf⟩ : ∃ f,f = Op1.formOf (Op1.at8 bs k):=⟨_,rfl⟩
    have hsz : Op1.szOf (Op1.at8 bs k) = 1 + Op1.bh f:=by unfold Op1.szOf;rw [hop',hf];rfl
    have hins : Op1.insAt bs k = ⟨k,Op1.at8 bs k,(Op1.abOf f k (Op1.at8 bs (k + 1)) (Op1.at8 bs (k + 2))).1,(Op1.abOf f k (Op1.at8 bs (k + 1)) (Op1.at8 bs (k + 2))).2⟩:=by unfold Op1.insAt;rw [hf]
    rw [← hf] at hf8
    rw [hsz,hins]
    by_cases hcut : (bs.length : Int) - k < ((1 + Op1.bh f : Nat) : Int)
    ·rw [if_pos hcut]
     exact rone_cut b o _ cap k _ f _ w hk hn h8 hc0 hop' hf.symm (by omega) rfl (by omega)
    ·rw [if_neg hcut]
     have h188 : Op1.at8 bs k = 188 ↔ f = 8:=by
      have hr:=(Op1.isOp_range hop').2
      rw [hf]
      exact (show ∀ k,k < 200 → (k = 188 ↔ Op1.formOf ((k : Nat) : Int) = 8) by decide +kernel) (Op1.at8 bs k) (by omega)
     simp only [h188]
     have h1:=fun h=>hc (k + 1) h
     have h2:=fun h=>hc (k + 2) h
     have p8:=Op1.at8_lt bs (k + 1)
     have q8:=Op1.at8_lt bs (k + 2)
     have all : f = 0 ∨ f = 1 ∨ f = 2 ∨ f = 3 ∨ f = 4 ∨ f = 5 ∨ f = 6 ∨ f = 7 ∨ f = 8:=by omega
     rcases all with rfl|rfl|rfl|rfl|rfl|rfl|rfl|rfl|rfl
     ·rw [show Op1.bh 0 = 0 by decide +kernel] at hcut ⊢
      rw [if_neg (by omega)]
      have:=rone_f0 b o _ cap k _ w (by omega) hn h8 hc0 hop' hf.symm
      simpa [Op1.abOf] using this
     ·rw [show Op1.bh 1 = 1 by decide +kernel] at hcut ⊢
      rw [if_neg (by omega)]
      have:=rone_f1 b o _ cap k _ _ w (by omega) hn h8 hc0 p8 (h1 (by omega)) hop' hf.symm
      simpa [Op1.abOf,Int.add_assoc] using this
     ·rw [show Op1.bh 2 = 1 by decide +kernel] at hcut ⊢
      rw [if_neg (by omega)]
      have:=rone_f2 b o _ cap k _ _ w (by omega) hn h8 hc0 p8 (h1 (by omega)) hop' hf.symm
      simpa [Op1.abOf,Int.add_assoc] using this
     ·rw [show Op1.bh 3 = 2 by decide +kernel] at hcut ⊢
      rw [if_neg (by omega)]
      have:=rone_f3 b o _ cap k _ _ _ w (by omega) hn h8 hc0 p8 (h1 (by omega)) q8 (h2 (by omega)) hop' hf.symm
      simpa [Op1.abOf,Int.add_assoc] using this
     ·rw [show Op1.bh 4 = 1 by decide +kernel] at hcut ⊢
      rw [if_neg (by omega)]
      have:=rone_f4 b o _ cap k _ _ w (by omega) hn h8 hc0 p8 (h1 (by omega)) hop' hf.symm
      simpa [Op1.abOf,Int.add_assoc] using this
     ·rw [show Op1.bh 5 = 2 by decide +kernel] at hcut ⊢
      rw [if_neg (by omega)]
      have:=rone_f5 b o _ cap k _ _ _ w (by omega) hn h8 hc0 p8 (h1 (by omega)) q8 (h2 (by omega)) hop' hf.symm
      simpa [Op1.abOf,Int.add_assoc] using this
     ·rw [show Op1.bh 6 = 2 by decide +kernel] at hcut ⊢
      rw [if_neg (by omega)]
      have:=rone_f6 b o _ cap k _ _ _ w (by omega) hn h8 hc0 p8 (h1 (by omega)) q8 (h2 (by omega)) hop' hf.symm
      simpa [Op1.abOf,Int.add_assoc] using this
     ·rw [show Op1.bh 7 = 2 by decide +kernel] at hcut ⊢
      rw [if_neg (by omega)]
      have:=rone_f7 b o _ cap k _ _ _ w (by omega) hn h8 hc0 p8 (h1 (by omega)) q8 (h2 (by omega)) hop' hf.symm
      simpa [Op1.abOf,Int.add_assoc] using this
     ·rw [show Op1.bh 8 = 1 by decide +kernel] at hcut ⊢
      by_cases e10 : Op1.at8 bs (k + 1) = 10
      ·rw [if_neg (by omega)]
       have:=rone_f8a b o _ cap k _ _ w (by omega) hn h8 hc0 p8 (h1 (by omega)) hop' hf.symm e10
       simpa [Op1.abOf,Int.add_assoc,e10] using this
      ·by_cases e11 : Op1.at8 bs (k + 1) = 11
       ·rw [if_neg (by omega)]
        have:=rone_f8b b o _ cap k _ _ w (by omega) hn h8 hc0 p8 (h1 (by omega)) hop' hf.symm e11
        simpa [Op1.abOf,Int.add_assoc,e11] using this
       ·rw [if_pos ⟨rfl,e10,e11⟩]
        exact rone_f8c b o _ cap k _ _ w (by omega) hn h8 hc0 p8 (h1 (by omega)) hop' hf.symm e10 e11
def RWalkPost (bs : List UInt8) (w : World) (e : Ending) (w' : World) : Prop :=
 ∃ (v : Value) (l : List Op1.Ins) (p : Nat) (er : Int),e = .returned (.tuple #[v,.int .i64 er]) ∧ Op1.Pre bs l p ∧ Op1.errAt bs p ≠ 0 ∧ (er = 0 ↔ p = bs.length) ∧ (er ≠ 0 → er = Op1.errAt bs p) ∧ OwnI w' w.heap.size v l ∧ Below w.heap.size w w'
set_option maxHeartbeats 400000 in
theorem rwalk_any (bs : List UInt8) (v : Value) (w : World) (hb : IsB w v bs) (hsz : bs.length * 32 ≤ 140737488355328) :
  Calls Tryz.prog 181 #[v] w (RWalkPost bs w):=by
 have HB:=hid hb
 have hlen:=hb.1
 obtain ⟨a,cap,hv⟩:=hb.len
 subst hv
 clear hb
 obtain ⟨i0,hi,hz0,hz1,hz2⟩:=info_parts A.info35
 go_enter Tryz.func181,Tryz.ntmps181
 go_wp2
 go_loopw [4,5] (fun v i wr=>∃ (l : List Op1.Ins) (p : Nat),i = .int .i64 p ∧ Op1.Pre bs l p ∧ OwnI wr w.heap.size v l ∧ Below w.heap.size w wr) (fun _ i _=>bs.length - (intOf i).toNat)
 case atStart=>exact ⟨[],0,rfl,.nil,nilI _ _,BLw⟩
 case round =>
  obtain ⟨l,p,rfl,hpre,hown,hbl⟩:=hrel
  have hpl:=hpre.le
  by_cases hlt : p < bs.length
  ·have H1:=hid (fun W (h : Below wr.heap.size wr W)=>rone_any bs _ p W ((HB.out.below hbl (Nat.le_refl _)).below h (Nat.le_refl _)))
   by_cases he : Op1.errAt bs p = 0
   ·obtain ⟨ho,hn1,hn2⟩:=Op1.one_ok he
    rw [ho] at H1
    obtain ⟨x,hx⟩ : ∃ x,x = Op1.insAt bs p:=⟨_,rfl⟩
    rw [← hx] at H1
    unfold oneV insV at H1
    have HE:=hid he
    have HPre:=hid hpre
    have HX:=hid hx
    have hlen2 : l.length ≤ bs.length:=by omega
    have hlen3 : l.length < bs.length:=by omega
    clear he ho hpre hx
    obtain ⟨q,hq⟩ : ∃ q,q = Op1.nxt bs p:=⟨_,rfl⟩
    rw [← hq] at H1 hn1 hn2
    have HQ:=hid hq
    clear hq
    go_wp2_with (first
     | (go_at_call 195;refine (H1.out _ BLw).mono ?_;rintro e w' ⟨rfl,hb⟩;have hown2:=Kit.owns_below hown hb (Nat.le_refl _))
     | (at_builtin;refine wpList_append_own _ rfl (.tmp 24) (.tmp 26) 187 rfl w.heap.size 192 i0 _ 4 32 Tryz.underlying187 hi hz0 hz1 hz2 rfl (by decide) _ l.length (insCells l) rfl ((hown2.alloc _).alloc _) ⟨w'.heap.size + 1,0,none⟩ 1 1 [.int .i64 x.p,.int .i64 x.op,.int .i64 x.a,.int .i64 x.b] rfl rfl ?c1 ?c2 ?c3 ?c4 ?c5 ?_))
    case c1 =>
     intro j u hj
     match j,hj with
     | 0,hj=>simp at hj;subst hj;simp [Addr.add,go_sem]
     | 1,hj=>simp at hj;subst hj;simp [Addr.add,go_sem]
     | 2,hj=>simp at hj;subst hj;simp [Addr.add,go_sem]
     | 3,hj=>simp at hj;subst hj;simp [Addr.add,go_sem]
    case c2=>intro u hu;simp at hu;rcases hu with rfl|rfl|rfl|rfl <;> rfl
    case c3=>unfold maxLen;omega
    case c4=>omega
    case c5=>have:=hbl.size;have:=hb.size;simp;omega
    ·intro v' w1 hown' hgrow _
     have hbw : Below w.heap.size w w1:=Kit.below_grown (belows hbl (hb.mono (Nat.le_refl _)) hbl.size |>.alloc (by have:=hbl.size;have:=hb.size;omega) _ |>.alloc (by have:=hbl.size;have:=hb.size;simp;omega) _) hgrow (by have:=hbl.size;have:=hb.size;simp;omega) (Kit.own_base hown)
     have hown3 : OwnI w1 w.heap.size v' (l ++ [x]):=by
      unfold OwnI
      rw [insCells_snoc]
      simpa [insC] using hown'
     clear hown' hgrow hown hown2 hb hbl
     go_wp2
     go_roundw
     case rel=>exact ⟨l ++ [x],q,rfl,by rw [HX.out,HQ.out];exact HPre.out.snoc HE.out,hown3,hbw⟩
     case measure=>simp [intOf];omega
   ·have ho:=Op1.one_err he
    rw [ho] at H1
    have hb1 : (Op1.errAt bs p != 0) = true:=by simpa using he
    unfold oneV insV Op1.noIns at H1
    obtain ⟨er,her⟩ : ∃ er,er = Op1.errAt bs p:=⟨_,rfl⟩
    rw [← her] at H1 hb1
    have HF : Hid (Op1.Pre bs l p ∧ Op1.errAt bs p ≠ 0 ∧ (er = 0 ↔ p = bs.length) ∧ (er ≠ 0 → er = Op1.errAt bs p)):=⟨hpre,he,⟨fun h=>absurd (her ▸ h) he,fun h=>by omega⟩,fun _=>her⟩
    clear he ho hpre her
    go_wp2_with (go_at_call 195;refine (H1.out _ BLw).mono ?_;rintro e w' ⟨rfl,hb⟩)
    go_ret2
    have hbw:=belows hbl hb hbl.size
    have hz1:=hbl.size
    have hz2:=hb.size
    exact ⟨_,_,_,_,rfl,HF.out.1,HF.out.2.1,HF.out.2.2.1,HF.out.2.2.2,(Kit.owns_below hown hb (Nat.le_refl _)).alloc _,BLw⟩
  ·have hend : p = bs.length:=by omega
   subst hend
   have HPre:=hid hpre
   clear hpre
   go_wp2
   go_ret2
   exact ⟨_,_,_,_,rfl,HPre.out,by rw [Op1.errAt_end (Nat.le_refl _)];decide,⟨fun _=>rfl,fun _=>rfl⟩,fun h=>absurd rfl h,hown,hbl⟩
end Go.Proofs.YtnojgiflgmnjlaaGreatDoor.L1
namespace Go.Proofs.YtnojgiflgmnjlaaGreatDoor.L1
open Go.RowKit
set_option maxHeartbeats 1000000 in
theorem rdecode_any (bs : List UInt8) (v : Value) (w : World) (hb : IsB w v bs) :
  Calls Tryz.prog 159 #[v] w (DecPost bs w):=by
 have HB:=hid hb
 have hlen:=hb.1
 obtain ⟨a,cap,hv⟩:=hb.len
 subst hv
 clear hb
 by_cases h1 : 4096 < bs.length
 ·have hd : decide (4096 < (bs.length : Int)) = true:=by simp;omega
  go_enter Tryz.func159,Tryz.ntmps159
  go_wp2
  go_ret2
  exact ⟨_,_,_,rfl,.long h1,nilI _ _,BLw⟩
 ·have hd : decide (4096 < (bs.length : Int)) = false:=by simp;omega
  by_cases h2 : bs.length = 0
  ·have hd2 : ((bs.length : Int) == 0) = true:=by rw [beq_iff_eq];omega
   have H2:=hid h2
   clear h2
   go_enter Tryz.func159,Tryz.ntmps159
   go_wp2
   go_ret2
   exact ⟨_,_,_,rfl,.none H2.out,nilI _ _,BLw⟩
  ·have hd2 : ((bs.length : Int) == 0) = false:=by rw [beq_eq_false_iff_ne];omega
   have hle : bs.length ≤ 4096:=by omega
   have hpos : 0 < bs.length:=by omega
   clear h1 h2
   go_enter Tryz.func159,Tryz.ntmps159
   go_wp2_with fail
   refine (rwalk_any bs _ _ HB.out (by omega)).mono ?_
   rintro e w2 ⟨m,l,p,er,rfl,hpre,her,h0,h1,om,hbw⟩
   have hpl:=hpre.le
   have hll : l.length ≤ 4096:=by omega
   have HM:=hid (Kit.isS_of_owns om (by omega))
   have HO:=hid om
   obtain ⟨am,capm,hvm⟩:=HM.out.len
   subst hvm
   have hz2:=hbw.size
   by_cases hz : er = 0
   ·obtain rfl:=h0.1 hz
    subst hz
    have HP:=hid hpl.2.2
    have HPre:=hid hpre
    clear h0 h1 hpl hpre her om
    have hmk:=fun W=>run_make_row' (P:=Tryz.prog) 190 4 (.bool false) 1 (by kernel_rfl) (by kernel_rfl) rfl .i64 .i64 bs.length (by omega) (by omega) W
    obtain ⟨C0,hC0⟩ : ∃ C,C = madeCells #[Value.bool false] bs.length:=⟨_,rfl⟩
    rw [← hC0] at hmk
    have hC : ∀ i,i < bs.length → C0[i]? = some (.bool (hitB l 0 i)):=fun i hi=>by rw [hC0,made_at bs.length i hi];rfl
    have HC:=hid hC
    clear hC0 hC
    go_wp2
    go_loopw [7] (fun i wr=>∃ k : Nat,k ≤ l.length ∧ i = .int .i64 k ∧ Hid (∀ i,i < bs.length → wr.cell? ⟨w2.heap.size,i,none⟩ = some (.bool (hitB l k i))) ∧ (∀ i,wr.frozen? ⟨w2.heap.size,i,none⟩ = false) ∧ w2.heap.size < wr.heap.size ∧ Below w2.heap.size w2 wr) (fun i _=>l.length - (intOf i).toNat)
    case atStart =>
     refine ⟨0,by omega,rfl,fun i hi=>?_,fun i=>by simp [go_sem],by simp,BLw⟩
     rw [World.cell?_alloc_at _ _ _ _ rfl]
     exact HC.out i hi
    case round =>
     obtain ⟨k,hk,rfl,hcl,hfr,hsz,hbl⟩:=hrel
     clear HC hmk
     by_cases hlt : k < l.length
     ·obtain ⟨x,hx⟩ : ∃ x,l[k]? = some x:=⟨l[k],List.getElem?_eq_getElem hlt⟩
      obtain ⟨b,o,cap',hv,hb,c0,c1,c2,c3⟩:=ins_at (HM.out.below hbl (Nat.le_refl _)) hx
      obtain ⟨rfl,-,rfl⟩:=Value.slice.inj hv
      obtain ⟨xp,xop,xa,xb⟩:=x
      dsimp only at c0 c1 c2 c3
      have hpx:=HP.out _ (List.mem_of_getElem? hx)
      dsimp only at hpx
      obtain ⟨p,rfl⟩:=Int.eq_ofNat_of_zero_le hpx.1
      have hpn : p < bs.length:=by omega
      have hcp:=hcl.out p hpn
      generalize hitB l k p = old at hcp
      have HX:=hid hx
      have i1 : (k : Int) < l.length:=by omega
      clear hx hpx hv
      go_wp2
      go_roundw
      case rel =>
       refine ⟨k + 1,by omega,by go_num,fun i hi=>?_,fun i=>?_,by simp;omega,BLw⟩
       ·rw [hitB_succ HX.out]
        rw [Kit.cell_set (i:=p) (v:=.bool true) (hcl.out i hi)]
        by_cases hip : p = i
        ·subst hip;simp
        ·have : ((p : Int) == (i : Int)) = false:=by rw [beq_eq_false_iff_ne];omega
         rw [this,Bool.or_false,if_neg hip]
       ·rw [World.frozen?_setCell]
        exact hfr i
      case measure=>simp [intOf];omega
     ·obtain rfl : k = l.length:=by omega
      go_wp2
      obtain ⟨wo,rfl⟩ : ∃ wo : World,wo = wr:=⟨_,rfl⟩
      go_loopw [8] (fun i wr=>∃ k : Nat,k ≤ l.length ∧ i = .int .i64 k ∧ Hid (∀ i,i < bs.length → wr.cell? ⟨w2.heap.size,i,none⟩ = some (.bool (hitB l l.length i))) ∧ Hid ((l.take k).all (goodB l bs.length) = true) ∧ w2.heap.size < wr.heap.size ∧ Below w2.heap.size w2 wr) (fun i _=>l.length - (intOf i).toNat)
      case atStart=>exact ⟨0,by omega,rfl,hcl,rfl,hsz,hbl⟩
      case round =>
       obtain ⟨k,hk,rfl,hcl,hgd,hsz,hbl⟩:=hrel
       by_cases hlt : k < l.length
       ·obtain ⟨x,hx⟩ : ∃ x,l[k]? = some x:=⟨l[k],List.getElem?_eq_getElem hlt⟩
        obtain ⟨b,o,cap',hv,hb,c0,c1,c2,c3⟩:=ins_at (HM.out.below hbl (Nat.le_refl _)) hx
        obtain ⟨rfl,-,rfl⟩:=Value.slice.inj hv
        obtain ⟨xp,xop,xa,xb⟩:=x
        dsimp only at c0 c1 c2 c3
        have HX:=hid hx
        have HJ:=hid (fun W=>rjumps_any xop W)
        have HG : Hid (goodB l bs.length ⟨xp,xop,xa,xb⟩ = (!jB xop || (decide (0 ≤ xa) && decide (xa < (bs.length : Int)) && hitB l l.length xa))):=rfl
        have i1 : (k : Int) < l.length:=by omega
        have hbr : b < wr.heap.size:=by have:=hbl.size;omega
        clear hx hv
        generalize jB xop = J at *
        cases J with
        | false =>
         go_wp2_with (go_at_call 182;refine (HJ.out _).mono ?_;rintro e w5 ⟨rfl,hb5⟩;obtain ⟨hcc,hff⟩:=bcell hb5;have hz5:=hb5.size;have hblw:=belows hbl hb5 hbl.size;have hccw:=fun i=>hcc w2.heap.size i hsz)
         go_roundw
         case rel=>exact ⟨k + 1,by omega,by go_num,fun i hi=>(hccw i).trans (hcl.out i hi),all_next HX.out hgd.out (by rw [HG.out];rfl),by omega,hblw⟩
         case measure=>simp [intOf];omega
        | true =>
         by_cases h0 : xa < 0
         ·have hd : decide (xa < 0) = true:=by simpa using h0
          have hfin:=landB_bad HX.out (by (rw [HG.out];have : decide (0 ≤ xa) = false:=by simp;omega);rw [this];rfl)
          have HF:=hid hfin
          clear hfin
          go_wp2_with (go_at_call 182;refine (HJ.out _).mono ?_;rintro e w5 ⟨rfl,hb5⟩;obtain ⟨hcc,hff⟩:=bcell hb5;have hz5:=hb5.size;have hblw:=belows hbl hb5 hbl.size;have hccw:=fun i=>hcc w2.heap.size i hsz)
          go_ret2
          exact ⟨_,_,_,rfl,.jump hle hpos HPre.out HF.out,nilI _ _,belows hbw hblw hz2⟩
         ·have hd : decide (xa < 0) = false:=by simpa using h0
          obtain ⟨q,rfl⟩:=Int.eq_ofNat_of_zero_le (show 0 ≤ xa by omega)
          by_cases h1 : bs.length ≤ q
          ·have hd2 : decide ((bs.length : Int) ≤ (q : Int)) = true:=by simp;omega
           have hfin:=landB_bad HX.out (by (rw [HG.out];have : decide ((q : Int) < (bs.length : Int)) = false:=by simp;omega);rw [this];simp)
           have HF:=hid hfin
           clear hfin
           go_wp2_with (go_at_call 182;refine (HJ.out _).mono ?_;rintro e w5 ⟨rfl,hb5⟩;obtain ⟨hcc,hff⟩:=bcell hb5;have hz5:=hb5.size;have hblw:=belows hbl hb5 hbl.size;have hccw:=fun i=>hcc w2.heap.size i hsz)
           go_ret2
           exact ⟨_,_,_,rfl,.jump hle hpos HPre.out HF.out,nilI _ _,belows hbw hblw hz2⟩
          ·have hd2 : decide ((bs.length : Int) ≤ (q : Int)) = false:=by simp;omega
           have hqn : q < bs.length:=by omega
           have hqn' : (q : Int) < bs.length:=by omega
           have hcq:=hcl.out q hqn
           cases hq : hitB l l.length (q : Int) with
           | true =>
            rw [hq] at hcq
            have HQ:=hid hq
            clear hq
            go_wp2_with (go_at_call 182;refine (HJ.out _).mono ?_;rintro e w5 ⟨rfl,hb5⟩;obtain ⟨hcc,hff⟩:=bcell hb5;have hz5:=hb5.size;have hblw:=belows hbl hb5 hbl.size;have hccw:=fun i=>hcc w2.heap.size i hsz)
            go_roundw
            case rel=>exact ⟨k + 1,by omega,by go_num,fun i hi=>(hccw i).trans (hcl.out i hi),all_next HX.out hgd.out (by rw [HG.out,HQ.out];simp;omega),by omega,hblw⟩
            case measure=>simp [intOf];omega
           | false =>
            rw [hq] at hcq
            have hfin:=landB_bad HX.out (by rw [HG.out,hq];simp)
            have HF:=hid hfin
            clear hfin hq
            go_wp2_with (go_at_call 182;refine (HJ.out _).mono ?_;rintro e w5 ⟨rfl,hb5⟩;obtain ⟨hcc,hff⟩:=bcell hb5;have hz5:=hb5.size;have hblw:=belows hbl hb5 hbl.size;have hccw:=fun i=>hcc w2.heap.size i hsz)
            go_ret2
            exact ⟨_,_,_,rfl,.jump hle hpos HPre.out HF.out,nilI _ _,belows hbw hblw hz2⟩
       ·obtain rfl : k = l.length:=by omega
        have HF:=hid (Op1.DecOut.ok hle hpos HPre.out (landB_end hgd.out))
        go_wp2
        go_ret2
        exact ⟨_,_,_,rfl,HF.out,Kit.owns_below HO.out hbl (Nat.le_refl _),belows hbw hbl hz2⟩
   ·have hne : (er != 0) = true:=by simpa using hz
    have HBad:=hid (Op1.DecOut.bad hle hpre (by have:=hpl.1;have : ¬ p = bs.length:=fun h=>hz (h0.2 h);omega) her)
    rw [← h1 hz] at HBad
    clear h0 h1 hz hpl hpre her
    go_wp2
    go_ret2
    exact ⟨_,_,_,rfl,HBad.out,nilI _ _,BLw⟩
end Go.Proofs.YtnojgiflgmnjlaaGreatDoor.L1
namespace Go.Proofs.YtnojgiflgmnjlaaGreatDoor
open Go.RowKit
def hL (h : Cf.Hn) : List Value:=[.int .i64 h.f,.int .i64 h.t,.int .i64 h.a,.int .i64 h.y]
theorem hL_len (h : Cf.Hn) : (hL h).length = 4:=rfl
def MbR (w : World) (cs : List Value) (m : Cf.Mb) : Prop :=
 ∃ cv hv,cs = [.int .i64 m.ac,.int .i64 m.nm,.int .i64 m.ds,.int .i64 m.st,.int .i64 m.lc,cv,hv] ∧ L3.Bs w.heap.size w cv m.code ∧ Kit.IsS 4 w hv m.hs.length (m.hs.flatMap hL) ∧ m.code.length ≤ 140737488355328
theorem MbR.len {w : World} {cs : List Value} {m : Cf.Mb} (h : MbR w cs m) : cs.length = 7:=by obtain ⟨cv,hv,rfl,-⟩:=h;rfl
theorem MbR.below {w w' : World} {cs : List Value} {m : Cf.Mb} (h : MbR w cs m) {B : Nat} (hb : Below B w w') (hB : w.heap.size ≤ B) : MbR w' cs m:=by
 obtain ⟨cv,hv,h1,h2,h3,h4⟩:=h
 exact ⟨cv,hv,h1,(h2.below hb hB).mono hb.size,h3.below hb hB,h4⟩
def MsC (w : World) : List (List Value) → List Cf.Mb → Prop
 | [],[]=>True
 | r :: rs,m :: ms=>MbR w r m ∧ MsC w rs ms
 | _,_=>False
theorem MsC.below {w w' : World} {B : Nat} (hb : Below B w w') (hB : w.heap.size ≤ B) : ∀ {rs : List (List Value)} {ms : List Cf.Mb},MsC w rs ms → MsC w' rs ms
 | [],[],_=>trivial
 | _ :: _,_ :: _,h=>⟨h.1.below hb hB,h.2.below hb hB⟩
 | [],_ :: _,h=>h.elim
 | _ :: _,[],h=>h.elim
theorem MsC.len {w : World} : ∀ {rs : List (List Value)} {ms : List Cf.Mb},MsC w rs ms → rs.length = ms.length ∧ rs.flatten.length = ms.length * 7
 | [],[],_=>⟨rfl,rfl⟩
 | _ :: _,_ :: _,h=>by
  obtain ⟨h1,h2⟩:=MsC.len h.2
  have h3:=h.1.len
  simp only [List.length_cons,List.flatten_cons,List.length_append]
  omega
 | [],_ :: _,h=>h.elim
 | _ :: _,[],h=>h.elim
theorem MsC.at {w : World} : ∀ {rs : List (List Value)} {ms : List Cf.Mb} {k : Nat} {m : Cf.Mb},MsC w rs ms → ms[k]? = some m → ∃ r,MbR w r m ∧ ∀ j,j < 7 → rs.flatten[k * 7 + j]? = r[j]?
 | [],[],_,_,_,hk=>by simp at hk
 | r :: rs,m :: ms,0,x,h,hk=>by
  simp only [List.getElem?_cons_zero,Option.some.injEq] at hk
  subst hk
  refine ⟨r,h.1,fun j hj=>?_⟩
  rw [List.flatten_cons,List.getElem?_append_left (by have:=h.1.len;omega)]
  simp
 | r :: rs,m :: ms,k + 1,x,h,hk=>by
  obtain ⟨r',h1,h2⟩:=MsC.at h.2 (by simpa using hk)
  refine ⟨r',h1,fun j hj=>?_⟩
  have h3:=h.1.len
  rw [List.flatten_cons,List.getElem?_append_right (by omega),h3,← h2 j hj]
  congr 1
  omega
 | [],_ :: _,_,_,h,_=>h.elim
 | _ :: _,[],_,_,h,_=>h.elim
theorem MsC.append {w : World} : ∀ {rs : List (List Value)} {ms : List Cf.Mb} {r : List Value} {m : Cf.Mb},MsC w rs ms → MbR w r m → MsC w (rs ++ [r]) (ms ++ [m])
 | [],[],_,_,_,h=>⟨h,trivial⟩
 | _ :: _,_ :: _,_,_,h,k=>⟨h.1,h.2.append k⟩
 | [],_ :: _,_,_,h,_=>h.elim
 | _ :: _,[],_,_,h,_=>h.elim
def MsR (w : World) (v : Value) (ms : List Cf.Mb) : Prop:=∃ rs,MsC w rs ms ∧ Kit.IsS 7 w v ms.length rs.flatten
theorem MsR.below {w w' : World} {v : Value} {ms : List Cf.Mb} (h : MsR w v ms) {B : Nat} (hb : Below B w w') (hB : w.heap.size ≤ B) : MsR w' v ms:=by
 obtain ⟨rs,h1,h2⟩:=h
 exact ⟨rs,h1.below hb hB,h2.below hb hB⟩
theorem MsR.len {w : World} {v : Value} {ms : List Cf.Mb} (h : MsR w v ms) : ∃ a cap,v = .slice a ms.length cap:=by
 obtain ⟨rs,h1,h2⟩:=h
 exact h2.len
theorem MsR.size {w : World} {v : Value} {ms : List Cf.Mb} (h : MsR w v ms) : ms.length ≤ 140737488355328:=by
 obtain ⟨rs,h1,h2⟩:=h
 exact h2.2.1
theorem MsR.at {w : World} {v : Value} {ms : List Cf.Mb} (h : MsR w v ms) {k : Nat} {m : Cf.Mb} (hk : ms[k]? = some m) :
  ∃ b o cap cv hv,v = .slice (some ⟨b,o,none⟩) ms.length cap ∧ b < w.heap.size ∧ L3.Bs w.heap.size w cv m.code ∧ Kit.IsS 4 w hv m.hs.length (m.hs.flatMap hL) ∧ m.code.length ≤ 140737488355328 ∧
   w.cell? ⟨b,o + k * 7,none⟩ = some (.int .i64 m.ac) ∧ w.cell? ⟨b,o + k * 7 + 1,none⟩ = some (.int .i64 m.nm) ∧ w.cell? ⟨b,o + k * 7 + 2,none⟩ = some (.int .i64 m.ds) ∧ w.cell? ⟨b,o + k * 7 + 3,none⟩ = some (.int .i64 m.st) ∧
   w.cell? ⟨b,o + k * 7 + 4,none⟩ = some (.int .i64 m.lc) ∧ w.cell? ⟨b,o + k * 7 + 5,none⟩ = some cv ∧ w.cell? ⟨b,o + k * 7 + 6,none⟩ = some hv:=by
 obtain ⟨rs,h1,h2⟩:=h
 have hlt : k < ms.length:=(List.getElem?_eq_some_iff.1 hk).1
 obtain ⟨b,o,cap,hv,-,hb,hc⟩:=h2.some (by omega)
 obtain ⟨r,⟨cv,hw,rfl,hB,hH,hl⟩,hr⟩:=h1.at hk
 refine ⟨b,o,cap,cv,hw,hv,hb,hB,hH,hl,?_,?_,?_,?_,?_,?_,?_⟩
 ·exact hc (k * 7) _ (by rw [← Nat.add_zero (k * 7),hr 0 (by omega)];rfl)
 ·exact Nat.add_assoc o (k * 7) 1 ▸ hc _ _ (by rw [hr 1 (by omega)];rfl)
 ·exact Nat.add_assoc o (k * 7) 2 ▸ hc _ _ (by rw [hr 2 (by omega)];rfl)
 ·exact Nat.add_assoc o (k * 7) 3 ▸ hc _ _ (by rw [hr 3 (by omega)];rfl)
 ·exact Nat.add_assoc o (k * 7) 4 ▸ hc _ _ (by rw [hr 4 (by omega)];rfl)
 ·exact Nat.add_assoc o (k * 7) 5 ▸ hc _ _ (by rw [hr 5 (by omega)];rfl)
 ·exact Nat.add_assoc o (k * 7) 6 ▸ hc _ _ (by rw [hr 6 (by omega)];rfl)
theorem h_at {w : World} {v : Value} {hs : List Cf.Hn} (h : Kit.IsS 4 w v hs.length (hs.flatMap hL)) {k : Nat} {x : Cf.Hn} (hx : hs[k]? = some x) :
  ∃ b o cap,v = .slice (some ⟨b,o,none⟩) hs.length cap ∧ b < w.heap.size ∧ w.cell? ⟨b,o + k * 4,none⟩ = some (.int .i64 x.f) ∧ w.cell? ⟨b,o + k * 4 + 1,none⟩ = some (.int .i64 x.t) ∧
   w.cell? ⟨b,o + k * 4 + 2,none⟩ = some (.int .i64 x.a) ∧ w.cell? ⟨b,o + k * 4 + 3,none⟩ = some (.int .i64 x.y):=by
 have hlt : k < hs.length:=(List.getElem?_eq_some_iff.1 hx).1
 obtain ⟨b,o,cap,hv,-,hb,hc⟩:=h.some (by omega)
 have hf:=fun j hj=>Kit.flat_at hL_len hx j hj
 refine ⟨b,o,cap,hv,hb,?_,?_,?_,?_⟩
 ·exact hc (k * 4) _ (by have:=hf 0 (by omega);simpa [hL] using this)
 ·exact Nat.add_assoc o (k * 4) 1 ▸ hc _ _ (by rw [hf 1 (by omega)];rfl)
 ·exact Nat.add_assoc o (k * 4) 2 ▸ hc _ _ (by rw [hf 2 (by omega)];rfl)
 ·exact Nat.add_assoc o (k * 4) 3 ▸ hc _ _ (by rw [hf 3 (by omega)];rfl)
def ClR (w : World) (vs : Array Value) (c : Cf.Cl) : Prop :=
 ∃ pv fv mv,vs = #[.int .i64 c.mi,.int .i64 c.ma,pv,.int .i64 c.ac,.int .i64 c.th,.int .i64 c.su,fv,mv] ∧ Kit.IsS 5 w pv c.pool.length (c.pool.flatMap L3.cL) ∧ MsR w fv c.fs ∧ MsR w mv c.ms
theorem ClR.below {w w' : World} {vs : Array Value} {c : Cf.Cl} (h : ClR w vs c) {B : Nat} (hb : Below B w w') (hB : w.heap.size ≤ B) : ClR w' vs c:=by
 obtain ⟨pv,fv,mv,h1,h2,h3,h4⟩:=h
 exact ⟨pv,fv,mv,h1,h2.below hb hB,h3.below hb hB,h4.below hb hB⟩
theorem isB_of_bs {w : World} {v : Value} {bs : List UInt8} (h : L3.Bs w.heap.size w v bs) (hl : bs.length ≤ 140737488355328) : L1.IsB w v bs:=by
 refine ⟨hl,?_⟩
 rcases h.2 with h|⟨b,o,cap,hv,hc,hb,hx⟩
 ·exact .inl h
 ·refine .inr ⟨b,o,cap,hv,hc,hb,fun i hi=>?_⟩
  rw [hx i bs[i] (List.getElem?_eq_getElem hi)]
  unfold L1.Op1.at8
  simp [hi,L3.bv]
end Go.Proofs.YtnojgiflgmnjlaaGreatDoor
namespace Go.Proofs.YtnojgiflgmnjlaaGreatDoor.Kit
open Go Go.RowKit
theorem step_call2g {P : Program} {ops : Array Oper} {o : Oper} {a : Act} {w : World} {K : Act → World → Prop} {Q : Exit → Act → World → Prop} {E : Prop}
  (hw : Region.wanted o (yielded ops a.tmps) = true) (f : FuncId) (x y : Operand) (t t' : TypeId) (hop : o.op = Op.call { callee:=Callee.value (.func f),args:=#[x,y],argTypes:=#[t,t'] }) (v v' : Value) (hx : a.eval x = v) (hy : a.eval y = v') (hcf : (callFunc f #[v,v']).run P w = .ok (.enter f #[v,v']) w)
  (R : Ending → World → Prop) (hC : Calls P f #[v,v'] w R) (hR : ∀ e w',R e w' → ∃ u,e = .returned u ∧ K (a.put o.dst u) w') :
  if Region.wanted o (yielded ops a.tmps) = true then Oper.wp P o a w K Q else E:=by
 rw [if_pos hw]
 have hrun : (execOp a.eval o).run P w = .ok (.enter f #[v,v']) w:=by
  cases o
  simp only at hop
  subst hop hx hy
  rw [execOp_call_go]
  simpa using hcf
 unfold Oper.wp
 rw [hrun]
 show Calls P f #[v,v'] w _
 refine hC.mono ?_
 intro e w' h
 obtain ⟨u,rfl,hk⟩:=hR e w' h
 exact hk
end Go.Proofs.YtnojgiflgmnjlaaGreatDoor.Kit
namespace Go.Proofs.YtnojgiflgmnjlaaGreatDoor.Kit
open Go Go.RowKit
theorem step_call3 {P : Program} {ops : Array Oper} {o : Oper} {a : Act} {w : World} {K : Act → World → Prop} {Q : Exit → Act → World → Prop} {E : Prop}
  (hg : o.guard = none) (f : FuncId) (x y z : Operand) (t t' t'' : TypeId) (hop : o.op = Op.call { callee:=Callee.value (.func f),args:=#[x,y,z],argTypes:=#[t,t',t''] }) (v v' v'' : Value) (hx : a.eval x = v) (hy : a.eval y = v') (hz : a.eval z = v'') (hcf : (callFunc f #[v,v',v'']).run P w = .ok (.enter f #[v,v',v'']) w)
  (R : Ending → World → Prop) (hC : Calls P f #[v,v',v''] w R) (hR : ∀ e w',R e w' → ∃ u,e = .returned u ∧ K (a.put o.dst u) w') :
  if Region.wanted o (yielded ops a.tmps) = true then Oper.wp P o a w K Q else E:=by
 have hw : Region.wanted o (yielded ops a.tmps) = true:=by simp [Region.wanted,hg]
 rw [if_pos hw]
 have hrun : (execOp a.eval o).run P w = .ok (.enter f #[v,v',v'']) w:=by
  cases o
  simp only at hop
  subst hop hx hy hz
  rw [execOp_call_go]
  simpa using hcf
 unfold Oper.wp
 rw [hrun]
 show Calls P f #[v,v',v''] w _
 refine hC.mono ?_
 intro e w' h
 obtain ⟨u,rfl,hk⟩:=hR e w' h
 exact hk
theorem blk_append_str {P : Program} (w : World) (base : Nat) (t u ty e : TypeId) (i : TypeInfo) (ht : P.underlying t = some (.slice e)) (hu : P.underlying u = some .string) (hi : P.info? e = some i) (hz : i.zero = some (.int .u8 0))
  (hsize : i.size = 1) (hby : i.bytes = 1) (g n cap : Nat) (xs : List Value) (hown : w.ownsRow base e 1 (.slice (some ⟨g,0,none⟩) n cap) n xs) (s : ByteArray)
  (hbytes : n + s.size ≤ 140737488355328) {v' : Value} {w' : World} (hr : (Builtin.append_ #[t,u] ty #[.slice (some ⟨g,0,none⟩) n cap,.string s]).run P w = .ok v' w') :
  v'.ownBlock = some g ∨ v'.ownBlock = some w.heap.size:=by
 have hxl : xs.length = n:=by simpa using hown.1
 have holds : ∀ j u,xs[j]? = some u → w.cell? ((⟨g,0,none⟩ : Addr).add j) = some u:=hown.cells (g:=g) rfl
 rcases hown.2 with ⟨h,-⟩|⟨g',cap',cur,h,hbg,hg,hnc,hcm,hcs,htake⟩
 ·cases h
 ·obtain ⟨h1,-,rfl⟩:=Value.slice.inj h
  obtain rfl : g = g':=by simpa using h1
  by_cases hroom : n + s.size ≤ cap
  ·have hfit : n + s.size ≤ cur.size:=by
    have : cur.size = cap:=by simpa using hcs
    omega
   have h2:=Lib.run_append_room_string (P:=P) w t u ty e i ht hu hi hsize g n cap cur hg s hroom hfit
   rw [h2] at hr
   simp only [Result.ok.injEq] at hr
   rw [← hr.1]
   exact .inl rfl
  ·have h2:=Lib.run_append_grow_string (P:=P) w t u ty e i (.int .u8 0) ht hu hi hz ⟨g,0,none⟩ n cap xs (by rw [hsize,hxl,Nat.mul_one]) holds s (by omega) (by omega) (by rw [hby];exact growslice_fits (by omega) (by omega))
   rw [h2] at hr
   simp only [Result.ok.injEq] at hr
   rw [← hr.1]
   exact .inr rfl
theorem step_append_str {P : Program} {ops : Array Oper} {o : Oper} {a : Act} {w : World} {K : Act → World → Prop} {Q : Exit → Act → World → Prop} {E : Prop}
  (hgd : o.guard = none) (sl x : Operand) (t u : TypeId) (hop : o.op = Op.call { callee:=Callee.builtin Builtin.append,args:=#[sl,x],argTypes:=#[t,u] })
  (base : Nat) (e : TypeId) (i : TypeInfo) (ht : P.underlying t = some (.slice e)) (hu : P.underlying u = some .string) (hi : P.info? e = some i) (hz : i.zero = some (.int .u8 0))
  (hsize : i.size = 1) (hby : i.bytes = 1) (g n cap : Nat) (xs : List Value) (hs : a.eval sl = .slice (some ⟨g,0,none⟩) n cap) (hown : w.ownsRow base e 1 (.slice (some ⟨g,0,none⟩) n cap) n xs) (s : ByteArray) (hx : a.eval x = .string s)
  (h63 : n + s.size ≤ maxLen) (hbytes : n + s.size ≤ 140737488355328) (hbase : base ≤ w.heap.size)
  (hK : ∀ v' w',w'.ownsRow base e 1 v' (n + s.size) (xs ++ Lib.strCells s) → w.grownBy w' (some g) → (v'.ownBlock = some g ∨ v'.ownBlock = some w.heap.size) → K (a.put o.dst v') w') :
  if Region.wanted o (yielded ops a.tmps) = true then Oper.wp P o a w K Q else E:=by
 have hw : Region.wanted o (yielded ops a.tmps) = true:=by simp [Region.wanted,hgd]
 rw [if_pos hw]
 obtain ⟨v',w',hr,h2,h3,-⟩:=Lib.run_append_own_string (P:=P) w base t u o.type e i ht hu hi hz hsize hby _ n xs hown s h63 hbytes hbase
 have h5:=blk_append_str (P:=P) w base t u o.type e i ht hu hi hz hsize hby g n cap xs hown s hbytes hr
 unfold Oper.wp execOp
 simp only [hop,resolve,invoke,builtin,Sem.run_bind,Sem.run_pure,Result.andThen_ok,List.map_toArray,List.map_cons,List.map_nil,hs,hx,hr]
 exact hK _ _ h2 h3 h5
end Go.Proofs.YtnojgiflgmnjlaaGreatDoor.Kit
namespace Go.Proofs.YtnojgiflgmnjlaaGreatDoor.L3
open Go.RowKit
def uns (z : Int) (k : Nat) : Int:=if k = 0 then 0 else z % 65536
theorem unsigned_any (z : Int) (k : Nat) (w : World) (hk : k = 0 ∨ k = 2) : Calls Tryz.prog 203 #[.int .i64 z,.int .i64 k] w fun e w'=>e = .returned (.int .i64 (uns z k)) ∧ w = w':=by
 rcases hk with rfl|rfl
 ·exact unsigned_0 z w
 ·exact unsigned_2 z w
theorem wd_ab (t : Int) : ((Cp.wd t).2.2.1 = 0 ∨ (Cp.wd t).2.2.1 = 2) ∧ ((Cp.wd t).2.2.2 = 0 ∨ (Cp.wd t).2.2.2 = 2):=by
 unfold Cp.wd
 repeat' split
 all_goals simp
def cutW (c : Cp.C) (x : Nat × Nat × Nat × Nat) : Cp.C:=⟨c.t,if x.1 = 0 then ⟨#[]⟩ else c.s,sgn c.n x.2.1,uns c.a x.2.2.1,uns c.b x.2.2.2⟩
set_option maxHeartbeats 400000 in
theorem cut_any (c : Cp.C) (x0 x1 x2 x3 : Nat) (w : World) (h1 : x1 = 0 ∨ x1 = 4 ∨ x1 = 8) (h2 : x2 = 0 ∨ x2 = 2) (h3 : x3 = 0 ∨ x3 = 2) :
  Calls Tryz.prog 189 #[.agg (cC c),.agg #[.int .i64 x0,.int .i64 x1,.int .i64 x2,.int .i64 x3]] w fun e w'=>e = .returned (.agg (cC (cutW c (x0,x1,x2,x3)))) ∧ Below w.heap.size w w':=by
 have HS:=hid (fun W=>signed_any c.n x1 W h1)
 have HA:=hid (fun W=>unsigned_any c.a x2 W h2)
 have HB:=hid (fun W=>unsigned_any c.b x3 W h3)
 unfold cutW cC
 obtain ⟨t,s,n,a,b⟩:=c
 dsimp only at HS HA HB ⊢
 clear h1 h2 h3
 by_cases h0 : x0 = 0
 ·subst h0
  rw [if_pos rfl]
  go_enter Tryz.func189,Tryz.ntmps189
  go_wp2_with (first
   | (go_at_call 202;refine (HS.out _).mono ?_;rintro e w1 ⟨rfl,rfl⟩;have _ga:=HS)
   | (go_at_call 203;(with_reducible refine (HA.out _).mono ?_);rintro e w2 ⟨rfl,rfl⟩)
   | (go_at_call 203;(with_reducible refine (HB.out _).mono ?_);rintro e w3 ⟨rfl,rfl⟩))
  exact bodyPost_ret (v:=.agg #[.int .i64 t,.string ⟨#[]⟩,.int .i64 (sgn n x1),.int .i64 (uns a x2),.int .i64 (uns b x3)]) (by simp [results,Tryz.results189,go_sem]) rfl ⟨rfl,BLw⟩
 ·rw [if_neg h0]
  have hd : ((x0 : Int) == 0) = false:=by rw [beq_eq_false_iff_ne];omega
  go_enter Tryz.func189,Tryz.ntmps189
  go_wp2_with (first
   | (go_at_call 202;refine (HS.out _).mono ?_;rintro e w1 ⟨rfl,rfl⟩;have _ga:=HS)
   | (go_at_call 203;(with_reducible refine (HA.out _).mono ?_);rintro e w2 ⟨rfl,rfl⟩)
   | (go_at_call 203;(with_reducible refine (HB.out _).mono ?_);rintro e w3 ⟨rfl,rfl⟩))
  exact bodyPost_ret (v:=.agg #[.int .i64 t,.string s,.int .i64 (sgn n x1),.int .i64 (uns a x2),.int .i64 (uns b x3)]) (by simp [results,Tryz.results189,go_sem]) rfl ⟨rfl,BLw⟩
def ceOut (c : Cp.C) : Int:=if Cp.knownB c.t = false ∨ cutW c (Cp.wd c.t) ≠ c then 31 else if 255 < c.s.size ∨ Cp.plainB (Cp.bl c.s) = false then 32 else 0
theorem cf_cut (u v : Value) (w : World) : (callFunc 189 #[u,v]).run Tryz.prog w = .ok (.enter 189 #[u,v]) w:=by kernel_rfl
theorem widthsOf_z (t : Int) (w : World) (ht : Tabs w) : Calls Tryz.prog 144 #[.int .i64 t] w fun e w'=>e = .returned (.tuple #[.agg #[.int .i64 (Cp.wd t).1,.int .i64 (Cp.wd t).2.1,.int .i64 (Cp.wd t).2.2.1,.int .i64 (Cp.wd t).2.2.2],.bool (Cp.knownB t)]) ∧ Below w.heap.size w w':=by
 by_cases h : 0 ≤ t
 ·obtain ⟨k,rfl⟩:=Int.eq_ofNat_of_zero_le h
  exact widthsOf_any k w ht
 ·have h1 : Cp.wd t = (0,0,0,0):=by unfold Cp.wd;rw [if_neg (by omega),if_neg (by omega),if_neg (by omega),if_neg (by omega),if_neg (by omega)]
  have h2 : Cp.knownB t = false:=by unfold Cp.knownB;rw [decide_eq_false_iff_not];omega
  rw [h1,h2]
  exact widthsOf_out t w (.inl (by omega))
set_option maxHeartbeats 4000000 in
theorem checkEntry_any (c : Cp.C) (w : World) (ht : Tabs w) (hs : c.s.size ≤ 140737488355328) : Calls Tryz.prog 170 #[.agg (cC c)] w fun e w'=>e = .returned (.int .i64 (ceOut c)) ∧ Below w.heap.size w w':=by
 have HW0:=fun W (h : Below w.heap.size w W)=>widthsOf_z c.t W (ht.below h ht.size)
 have HCu0:=fun W=>cut_any c (Cp.wd c.t).1 (Cp.wd c.t).2.1 (Cp.wd c.t).2.2.1 (Cp.wd c.t).2.2.2 W (wd_n c.t) (wd_ab c.t).1 (wd_ab c.t).2
 have HP0:=fun W=>isPlain_any c.s W hs
 unfold ceOut
 obtain ⟨d,hd⟩ : ∃ d,d = cutW c (Cp.wd c.t):=⟨_,rfl⟩
 have hdt : d.t = c.t:=by rw [hd];rfl
 rw [show cutW c ((Cp.wd c.t).1,(Cp.wd c.t).2.1,(Cp.wd c.t).2.2.1,(Cp.wd c.t).2.2.2) = d from hd.symm] at HCu0
 rw [← hd]
 obtain ⟨⟨x0,x1,x2,x3⟩,hx⟩ : ∃ x,x = Cp.wd c.t:=⟨_,rfl⟩
 rw [← hx] at HW0 HCu0
 dsimp only at HW0 HCu0
 cases hk : Cp.knownB c.t with
 | false =>
  rw [if_pos (.inl rfl)]
  rw [hk] at HW0
  have HW:=hid HW0
  unfold cC
  clear HW0 HCu0 HP0 hd hdt hx hk ht hs
  go_enter Tryz.func170,Tryz.ntmps170
  go_wp2_with (go_at_call 144;refine (HW.out _ BLw).mono ?_;rintro e w1 ⟨rfl,hb1⟩;have c0:=hb1.cell (p:=⟨w.heap.size,0,none⟩) (by simp);simp [go_sem] at c0;have hz1:=hb1.size;simp only [World.size_alloc] at hz1)
  go_quiet (fail)
  go_wp2
  go_ret
  exact ⟨rfl,by (have h1:=belows (B:=w.heap.size) (a:=w) BLw hb1 (by simp));exact BLw⟩
 | true =>
  rw [hk] at HW0
  have HW:=hid HW0
  have HCu:=hid HCu0
  have hdc : d = c ∨ (d ≠ c):=Decidable.em _
  rcases hdc with hdc|hdc
  ·rw [hdc] at HCu
   rw [hdc,if_neg (by rintro (h|h);cases h;exact h rfl)]
   by_cases hbig : 255 < c.s.size
   ·rw [if_pos (.inl hbig)]
    have hd2 : decide (255 < (c.s.size : Int)) = true:=by simp;omega
    unfold cC at HCu ⊢
    clear HW0 HCu0 HP0 hd hdt hx hk ht hs hdc hbig
    (go_enter Tryz.func170,Tryz.ntmps170;go_wp2_with (go_at_call 144;refine (HW.out _ BLw).mono ?_;rintro e w1 ⟨rfl,hb1⟩;have c0:=hb1.cell (p:=⟨w.heap.size,0,none⟩) (by simp);have c1:=hb1.cell (p:=⟨w.heap.size,1,none⟩) (by simp);have c2:=hb1.cell (p:=⟨w.heap.size,2,none⟩) (by simp);have c3:=hb1.cell (p:=⟨w.heap.size,3,none⟩) (by simp);have c4:=hb1.cell (p:=⟨w.heap.size,4,none⟩) (by simp);have hz1:=hb1.size;simp [go_sem] at c0 c1 c2 c3 c4 hz1;have hz2 : w.heap.size < w1.heap.size:=(by omega));go_region_law (refine Kit.step_call2g rfl 189 (.tmp 15) (.tmp 16) 56 169 rfl _ _ rfl rfl (cf_cut _ _ _) _ (HCu.out _) ?_;rintro e w2 ⟨rfl,hb2⟩;have hz3:=hb2.size;simp at hz3;have e0:=hb2.cell (p:=⟨w.heap.size,0,none⟩) (by simp;omega);have e1:=hb2.cell (p:=⟨w.heap.size,1,none⟩) (by simp;omega);have e2:=hb2.cell (p:=⟨w.heap.size,2,none⟩) (by simp;omega);have e3:=hb2.cell (p:=⟨w.heap.size,3,none⟩) (by simp;omega);have e4:=hb2.cell (p:=⟨w.heap.size,4,none⟩) (by simp;omega);simp [go_sem,c0,c1,c2,c3,c4,hz2] at e0 e1 e2 e3 e4;refine ⟨_,rfl,?_⟩))
    all_goals go_wp2
    all_goals go_ret
    all_goals exact ⟨rfl,(by (have h1:=belows (B:=w.heap.size) (a:=w) BLw hb1 (by simp));(have h2:=belows (B:=w.heap.size) (a:=w) BLw hb2 (by simp;omega));exact BLw)⟩
   ·have hd2 : decide (255 < (c.s.size : Int)) = false:=by simp;omega
    cases hp : Cp.plainB (Cp.bl c.s) with
    | false =>
     rw [if_pos (.inr rfl)]
     rw [hp] at HP0
     have HP:=hid HP0
     unfold cC at HCu ⊢
     clear HW0 HCu0 HP0 hd hdt hx hk ht hs hdc hbig hp
     (go_enter Tryz.func170,Tryz.ntmps170;go_wp2_with (go_at_call 144;refine (HW.out _ BLw).mono ?_;rintro e w1 ⟨rfl,hb1⟩;have c0:=hb1.cell (p:=⟨w.heap.size,0,none⟩) (by simp);have c1:=hb1.cell (p:=⟨w.heap.size,1,none⟩) (by simp);have c2:=hb1.cell (p:=⟨w.heap.size,2,none⟩) (by simp);have c3:=hb1.cell (p:=⟨w.heap.size,3,none⟩) (by simp);have c4:=hb1.cell (p:=⟨w.heap.size,4,none⟩) (by simp);have hz1:=hb1.size;simp [go_sem] at c0 c1 c2 c3 c4 hz1;have hz2 : w.heap.size < w1.heap.size:=(by omega));go_region_law (refine Kit.step_call2g rfl 189 (.tmp 15) (.tmp 16) 56 169 rfl _ _ rfl rfl (cf_cut _ _ _) _ (HCu.out _) ?_;rintro e w2 ⟨rfl,hb2⟩;have hz3:=hb2.size;simp at hz3;have e0:=hb2.cell (p:=⟨w.heap.size,0,none⟩) (by simp;omega);have e1:=hb2.cell (p:=⟨w.heap.size,1,none⟩) (by simp;omega);have e2:=hb2.cell (p:=⟨w.heap.size,2,none⟩) (by simp;omega);have e3:=hb2.cell (p:=⟨w.heap.size,3,none⟩) (by simp;omega);have e4:=hb2.cell (p:=⟨w.heap.size,4,none⟩) (by simp;omega);simp [go_sem,c0,c1,c2,c3,c4,hz2] at e0 e1 e2 e3 e4;refine ⟨_,rfl,?_⟩))
     all_goals go_wp2_with (go_at_call 190;refine (HP.out _).mono ?_;rintro e w3 ⟨rfl,rfl⟩)
     all_goals go_ret
     all_goals exact ⟨rfl,(by (have h1:=belows (B:=w.heap.size) (a:=w) BLw hb1 (by simp));(have h2:=belows (B:=w.heap.size) (a:=w) BLw hb2 (by simp;omega));exact BLw)⟩
    | true =>
     rw [if_neg (by rintro (h|h);exact hbig h;cases h)]
     rw [hp] at HP0
     have HP:=hid HP0
     unfold cC at HCu ⊢
     clear HW0 HCu0 HP0 hd hdt hx hk ht hs hdc hbig hp
     (go_enter Tryz.func170,Tryz.ntmps170;go_wp2_with (go_at_call 144;refine (HW.out _ BLw).mono ?_;rintro e w1 ⟨rfl,hb1⟩;have c0:=hb1.cell (p:=⟨w.heap.size,0,none⟩) (by simp);have c1:=hb1.cell (p:=⟨w.heap.size,1,none⟩) (by simp);have c2:=hb1.cell (p:=⟨w.heap.size,2,none⟩) (by simp);have c3:=hb1.cell (p:=⟨w.heap.size,3,none⟩) (by simp);have c4:=hb1.cell (p:=⟨w.heap.size,4,none⟩) (by simp);have hz1:=hb1.size;simp [go_sem] at c0 c1 c2 c3 c4 hz1;have hz2 : w.heap.size < w1.heap.size:=(by omega));go_region_law (refine Kit.step_call2g rfl 189 (.tmp 15) (.tmp 16) 56 169 rfl _ _ rfl rfl (cf_cut _ _ _) _ (HCu.out _) ?_;rintro e w2 ⟨rfl,hb2⟩;have hz3:=hb2.size;simp at hz3;have e0:=hb2.cell (p:=⟨w.heap.size,0,none⟩) (by simp;omega);have e1:=hb2.cell (p:=⟨w.heap.size,1,none⟩) (by simp;omega);have e2:=hb2.cell (p:=⟨w.heap.size,2,none⟩) (by simp;omega);have e3:=hb2.cell (p:=⟨w.heap.size,3,none⟩) (by simp;omega);have e4:=hb2.cell (p:=⟨w.heap.size,4,none⟩) (by simp;omega);simp [go_sem,c0,c1,c2,c3,c4,hz2] at e0 e1 e2 e3 e4;refine ⟨_,rfl,?_⟩))
     all_goals go_wp2_with (go_at_call 190;refine (HP.out _).mono ?_;rintro e w3 ⟨rfl,rfl⟩)
     all_goals go_ret
     all_goals exact ⟨rfl,(by (have h1:=belows (B:=w.heap.size) (a:=w) BLw hb1 (by simp));(have h2:=belows (B:=w.heap.size) (a:=w) BLw hb2 (by simp;omega));exact BLw)⟩
  ·rw [if_pos (.inr hdc)]
   obtain ⟨t,s,n,a,b⟩:=c
   obtain ⟨dt,ds,dn,da,db⟩:=d
   dsimp only at hdt
   subst hdt
   unfold cC at HCu ⊢
   dsimp only at HCu HW ⊢
   have hne : (¬ s = ds) ∨ (s = ds ∧ ¬ n = dn) ∨ (s = ds ∧ n = dn ∧ ¬ a = da) ∨ (s = ds ∧ n = dn ∧ a = da ∧ ¬ b = db):=by
    by_cases e1 : s = ds
    ·by_cases e2 : n = dn
     ·by_cases e3 : a = da
      ·by_cases e4 : b = db
       ·exact absurd (by rw [e1,e2,e3,e4]) hdc
       ·exact .inr (.inr (.inr ⟨e1,e2,e3,e4⟩))
      ·exact .inr (.inr (.inl ⟨e1,e2,e3⟩))
     ·exact .inr (.inl ⟨e1,e2⟩)
    ·exact .inl e1
   clear HW0 HCu0 HP0 hd hx hk ht hs hdc
   rcases hne with hne|⟨rfl,hne⟩|⟨rfl,rfl,hne⟩|⟨rfl,rfl,rfl,hne⟩
   ·have hne3 : (s.toList == ds.toList) = false:=by rw [beq_eq_false_iff_ne,ne_eq,ByteArray.toList_eq,ByteArray.toList_eq];intro e;exact hne (ba_ext e)
    (go_enter Tryz.func170,Tryz.ntmps170;go_wp2_with (go_at_call 144;refine (HW.out _ BLw).mono ?_;rintro e w1 ⟨rfl,hb1⟩;have c0:=hb1.cell (p:=⟨w.heap.size,0,none⟩) (by simp);have c1:=hb1.cell (p:=⟨w.heap.size,1,none⟩) (by simp);have c2:=hb1.cell (p:=⟨w.heap.size,2,none⟩) (by simp);have c3:=hb1.cell (p:=⟨w.heap.size,3,none⟩) (by simp);have c4:=hb1.cell (p:=⟨w.heap.size,4,none⟩) (by simp);have hz1:=hb1.size;simp [go_sem] at c0 c1 c2 c3 c4 hz1;have hz2 : w.heap.size < w1.heap.size:=(by omega));go_region_law (refine Kit.step_call2g rfl 189 (.tmp 15) (.tmp 16) 56 169 rfl _ _ rfl rfl (cf_cut _ _ _) _ (HCu.out _) ?_;rintro e w2 ⟨rfl,hb2⟩;have hz3:=hb2.size;simp at hz3;have e0:=hb2.cell (p:=⟨w.heap.size,0,none⟩) (by simp;omega);have e1:=hb2.cell (p:=⟨w.heap.size,1,none⟩) (by simp;omega);have e2:=hb2.cell (p:=⟨w.heap.size,2,none⟩) (by simp;omega);have e3:=hb2.cell (p:=⟨w.heap.size,3,none⟩) (by simp;omega);have e4:=hb2.cell (p:=⟨w.heap.size,4,none⟩) (by simp;omega);simp [go_sem,c0,c1,c2,c3,c4,hz2] at e0 e1 e2 e3 e4;refine ⟨_,rfl,?_⟩))
    all_goals go_wp2
    all_goals go_ret
    all_goals exact ⟨rfl,(by (have h1:=belows (B:=w.heap.size) (a:=w) BLw hb1 (by simp));(have h2:=belows (B:=w.heap.size) (a:=w) BLw hb2 (by simp;omega));exact BLw)⟩
   ·(go_enter Tryz.func170,Tryz.ntmps170;go_wp2_with (go_at_call 144;refine (HW.out _ BLw).mono ?_;rintro e w1 ⟨rfl,hb1⟩;have c0:=hb1.cell (p:=⟨w.heap.size,0,none⟩) (by simp);have c1:=hb1.cell (p:=⟨w.heap.size,1,none⟩) (by simp);have c2:=hb1.cell (p:=⟨w.heap.size,2,none⟩) (by simp);have c3:=hb1.cell (p:=⟨w.heap.size,3,none⟩) (by simp);have c4:=hb1.cell (p:=⟨w.heap.size,4,none⟩) (by simp);have hz1:=hb1.size;simp [go_sem] at c0 c1 c2 c3 c4 hz1;have hz2 : w.heap.size < w1.heap.size:=(by omega));go_region_law (refine Kit.step_call2g rfl 189 (.tmp 15) (.tmp 16) 56 169 rfl _ _ rfl rfl (cf_cut _ _ _) _ (HCu.out _) ?_;rintro e w2 ⟨rfl,hb2⟩;have hz3:=hb2.size;simp at hz3;have e0:=hb2.cell (p:=⟨w.heap.size,0,none⟩) (by simp;omega);have e1:=hb2.cell (p:=⟨w.heap.size,1,none⟩) (by simp;omega);have e2:=hb2.cell (p:=⟨w.heap.size,2,none⟩) (by simp;omega);have e3:=hb2.cell (p:=⟨w.heap.size,3,none⟩) (by simp;omega);have e4:=hb2.cell (p:=⟨w.heap.size,4,none⟩) (by simp;omega);simp [go_sem,c0,c1,c2,c3,c4,hz2] at e0 e1 e2 e3 e4;refine ⟨_,rfl,?_⟩))
    all_goals go_wp2
    all_goals go_ret
    all_goals exact ⟨rfl,(by (have h1:=belows (B:=w.heap.size) (a:=w) BLw hb1 (by simp));(have h2:=belows (B:=w.heap.size) (a:=w) BLw hb2 (by simp;omega));exact BLw)⟩
   ·(go_enter Tryz.func170,Tryz.ntmps170;go_wp2_with (go_at_call 144;refine (HW.out _ BLw).mono ?_;rintro e w1 ⟨rfl,hb1⟩;have c0:=hb1.cell (p:=⟨w.heap.size,0,none⟩) (by simp);have c1:=hb1.cell (p:=⟨w.heap.size,1,none⟩) (by simp);have c2:=hb1.cell (p:=⟨w.heap.size,2,none⟩) (by simp);have c3:=hb1.cell (p:=⟨w.heap.size,3,none⟩) (by simp);have c4:=hb1.cell (p:=⟨w.heap.size,4,none⟩) (by simp);have hz1:=hb1.size;simp [go_sem] at c0 c1 c2 c3 c4 hz1;have hz2 : w.heap.size < w1.heap.size:=(by omega));go_region_law (refine Kit.step_call2g rfl 189 (.tmp 15) (.tmp 16) 56 169 rfl _ _ rfl rfl (cf_cut _ _ _) _ (HCu.out _) ?_;rintro e w2 ⟨rfl,hb2⟩;have hz3:=hb2.size;simp at hz3;have e0:=hb2.cell (p:=⟨w.heap.size,0,none⟩) (by simp;omega);have e1:=hb2.cell (p:=⟨w.heap.size,1,none⟩) (by simp;omega);have e2:=hb2.cell (p:=⟨w.heap.size,2,none⟩) (by simp;omega);have e3:=hb2.cell (p:=⟨w.heap.size,3,none⟩) (by simp;omega);have e4:=hb2.cell (p:=⟨w.heap.size,4,none⟩) (by simp;omega);simp [go_sem,c0,c1,c2,c3,c4,hz2] at e0 e1 e2 e3 e4;refine ⟨_,rfl,?_⟩))
    all_goals go_wp2
    all_goals go_ret
    all_goals exact ⟨rfl,(by (have h1:=belows (B:=w.heap.size) (a:=w) BLw hb1 (by simp));(have h2:=belows (B:=w.heap.size) (a:=w) BLw hb2 (by simp;omega));exact BLw)⟩
   ·(go_enter Tryz.func170,Tryz.ntmps170;go_wp2_with (go_at_call 144;refine (HW.out _ BLw).mono ?_;rintro e w1 ⟨rfl,hb1⟩;have c0:=hb1.cell (p:=⟨w.heap.size,0,none⟩) (by simp);have c1:=hb1.cell (p:=⟨w.heap.size,1,none⟩) (by simp);have c2:=hb1.cell (p:=⟨w.heap.size,2,none⟩) (by simp);have c3:=hb1.cell (p:=⟨w.heap.size,3,none⟩) (by simp);have c4:=hb1.cell (p:=⟨w.heap.size,4,none⟩) (by simp);have hz1:=hb1.size;simp [go_sem] at c0 c1 c2 c3 c4 hz1;have hz2 : w.heap.size < w1.heap.size:=(by omega));go_region_law (refine Kit.step_call2g rfl 189 (.tmp 15) (.tmp 16) 56 169 rfl _ _ rfl rfl (cf_cut _ _ _) _ (HCu.out _) ?_;rintro e w2 ⟨rfl,hb2⟩;have hz3:=hb2.size;simp at hz3;have e0:=hb2.cell (p:=⟨w.heap.size,0,none⟩) (by simp;omega);have e1:=hb2.cell (p:=⟨w.heap.size,1,none⟩) (by simp;omega);have e2:=hb2.cell (p:=⟨w.heap.size,2,none⟩) (by simp;omega);have e3:=hb2.cell (p:=⟨w.heap.size,3,none⟩) (by simp;omega);have e4:=hb2.cell (p:=⟨w.heap.size,4,none⟩) (by simp;omega);simp [go_sem,c0,c1,c2,c3,c4,hz2] at e0 e1 e2 e3 e4;refine ⟨_,rfl,?_⟩))
    all_goals go_wp2
    all_goals go_ret
    all_goals exact ⟨rfl,(by (have h1:=belows (B:=w.heap.size) (a:=w) BLw hb1 (by simp));(have h2:=belows (B:=w.heap.size) (a:=w) BLw hb2 (by simp;omega));exact BLw)⟩
end Go.Proofs.YtnojgiflgmnjlaaGreatDoor.L3
namespace Go.Proofs.YtnojgiflgmnjlaaGreatDoor.L3
open Go.RowKit
theorem c0_ne {c : Cp.C} (h : c ≠ Cp.C0) : (¬ c.t = 0) ∨ (c.t = 0 ∧ (c.s.toList.isEmpty) = false) ∨ (c.t = 0 ∧ c.s = ⟨#[]⟩ ∧ ¬ c.n = 0) ∨ (c.t = 0 ∧ c.s = ⟨#[]⟩ ∧ c.n = 0 ∧ ¬ c.a = 0) ∨ (c.t = 0 ∧ c.s = ⟨#[]⟩ ∧ c.n = 0 ∧ c.a = 0 ∧ ¬ c.b = 0):=by
 obtain ⟨t,s,n,a,b⟩:=c
 dsimp only
 by_cases e1 : t = 0
 ·by_cases e2 : s = ⟨#[]⟩
  ·by_cases e3 : n = 0
   ·by_cases e4 : a = 0
    ·by_cases e5 : b = 0
     ·exact absurd (by rw [e1,e2,e3,e4,e5];rfl) h
     ·exact .inr (.inr (.inr (.inr ⟨e1,e2,e3,e4,e5⟩)))
    ·exact .inr (.inr (.inr (.inl ⟨e1,e2,e3,e4⟩)))
   ·exact .inr (.inr (.inl ⟨e1,e2,e3⟩))
  ·refine .inr (.inl ⟨e1,?_⟩)
   rw [ByteArray.toList_eq]
   cases hb : s.data.toList with
   | nil=>exact absurd (ba_ext hb) e2
   | cons=>rfl
 ·exact .inl e1
def prevB (l : List Cp.C) (i : Nat) : Bool:=match i with
 | 0=>true
 | j + 1=>match l[j]? with
  | some p=>p.t == 5
  | none=>false
set_option maxHeartbeats 4000000 in
theorem checkAt_none (l : List Cp.C) (i : Nat) (c : Cp.C) (v : Value) (w : World) (hv : Kit.IsS 5 w v l.length (l.flatMap cL)) (hc : l[i]? = some c) (hp : prevB l i = true) :
  Calls Tryz.prog 142 #[v,.int .i64 i] w fun e w'=>e = .returned (.int .i64 (if c = Cp.C0 then 0 else 31)) ∧ Below w.heap.size w w':=by
 have hi : i < l.length:=(List.getElem?_eq_some_iff.1 hc).1
 have hlen:=hv.2.1
 obtain ⟨b,o,cap,rfl,hb,c0,c1,c2,c3,c4⟩:=c_at hv hc
 have hi1 : (i : Int) < (l.length : Int):=by omega
 cases i with
 | zero =>
  rw [Nat.zero_mul,Nat.add_zero] at c0 c1 c2 c3 c4
  clear hv hp
  by_cases he : c = Cp.C0
  ·subst he
   rw [if_pos rfl]
   unfold Cp.C0 at c0 c1 c2 c3 c4
   dsimp only at c0 c1 c2 c3 c4
   clear hc
   (go_enter Tryz.func142,Tryz.ntmps142;go_wp2;go_ret;exact ⟨rfl,BLw⟩)
  ·rw [if_neg he]
   have hne:=c0_ne he
   obtain ⟨t,s,n,a,bb⟩:=c
   dsimp only at c0 c1 c2 c3 c4 hne
   clear hc he
   rcases hne with h|⟨rfl,h⟩|⟨rfl,rfl,h⟩|⟨rfl,rfl,rfl,h⟩|⟨rfl,rfl,rfl,rfl,h⟩
   all_goals (go_enter Tryz.func142,Tryz.ntmps142;go_wp2;go_ret;exact ⟨rfl,BLw⟩)
 | succ j =>
  obtain ⟨p,hpj⟩ : ∃ p,l[j]? = some p:=⟨l[j]'(by omega),List.getElem?_eq_getElem _⟩
  obtain ⟨b',o',cap',hv',hb',d0,-,-,-,-⟩:=c_at hv hpj
  obtain ⟨e1,-,-⟩:=Value.slice.inj hv'
  obtain ⟨rfl,rfl⟩ : b = b' ∧ o = o':=by simpa using e1
  have hpt : (p.t == 5) = true:=by unfold prevB at hp;dsimp only at hp;rw [hpj] at hp;exact hp
  have hj1 : (j : Int) < (l.length : Int):=by omega
  have hi0 : (((j + 1 : Nat) : Int) == 0) = false:=by rw [beq_eq_false_iff_ne];omega
  obtain ⟨pt,ps,pn,pa,pb⟩:=p
  dsimp only at d0 hpt
  obtain rfl : pt = 5:=by simpa using hpt
  clear hv hp hv' e1 hpj
  by_cases he : c = Cp.C0
  ·subst he
   rw [if_pos rfl]
   unfold Cp.C0 at c0 c1 c2 c3 c4
   dsimp only at c0 c1 c2 c3 c4
   clear hc
   (go_enter Tryz.func142,Tryz.ntmps142;go_wp2;go_ret;exact ⟨rfl,BLw⟩)
  ·rw [if_neg he]
   have hne:=c0_ne he
   obtain ⟨t,s,n,a,bb⟩:=c
   dsimp only at c0 c1 c2 c3 c4 hne
   clear hc he
   rcases hne with h|⟨rfl,h⟩|⟨rfl,rfl,h⟩|⟨rfl,rfl,rfl,h⟩|⟨rfl,rfl,rfl,rfl,h⟩
   all_goals (go_enter Tryz.func142,Tryz.ntmps142;go_wp2;go_ret;exact ⟨rfl,BLw⟩)
set_option maxHeartbeats 4000000 in
theorem checkAt_some (l : List Cp.C) (i : Nat) (c : Cp.C) (v : Value) (w : World) (ht : Tabs w) (hv : Kit.IsS 5 w v l.length (l.flatMap cL)) (hc : l[i]? = some c) (hp : prevB l i = false) (hs : c.s.size ≤ 140737488355328) :
  Calls Tryz.prog 142 #[v,.int .i64 i] w fun e w'=>e = .returned (.int .i64 (if c.t = 5 ∧ i = l.length - 1 then 31 else ceOut c)) ∧ Below w.heap.size w w':=by
 have hi : i < l.length:=(List.getElem?_eq_some_iff.1 hc).1
 have hlen:=hv.2.1
 have HE0:=fun W (h : Below w.heap.size w W)=>checkEntry_any c W (ht.below h ht.size) hs
 obtain ⟨b,o,cap,rfl,hb,c0,c1,c2,c3,c4⟩:=c_at hv hc
 have hi1 : (i : Int) < (l.length : Int):=by omega
 cases i with
 | zero=>unfold prevB at hp;cases hp
 | succ j =>
  obtain ⟨p,hpj⟩ : ∃ p,l[j]? = some p:=⟨l[j]'(by omega),List.getElem?_eq_getElem _⟩
  obtain ⟨b',o',cap',hv',hb',d0,-,-,-,-⟩:=c_at hv hpj
  obtain ⟨e1,-,-⟩:=Value.slice.inj hv'
  obtain ⟨rfl,rfl⟩ : b = b' ∧ o = o':=by simpa using e1
  have hpt : (p.t == 5) = false:=by unfold prevB at hp;dsimp only at hp;rw [hpj] at hp;exact hp
  have hj1 : (j : Int) < (l.length : Int):=by omega
  have hi0 : (((j + 1 : Nat) : Int) == 0) = false:=by rw [beq_eq_false_iff_ne];omega
  have hw1 : IntKind.i64.wrap ((l.length : Int) - 1) = (l.length : Int) - 1:=IntWalk.i64_in _ (by omega)
  unfold cC at HE0
  obtain ⟨pt,ps,pn,pa,pb⟩:=p
  dsimp only at d0 hpt
  clear hv hp hv' e1 hpj
  by_cases h5 : c.t = 5
  ·have hd5 : (c.t == 5) = true:=by simpa using h5
   by_cases hla : j + 1 = l.length - 1
   ·rw [if_pos ⟨h5,hla⟩]
    have hd6 : (((j + 1 : Nat) : Int) == (l.length : Int) - 1) = true:=by rw [beq_iff_eq];omega
    have hd6' : ((j : Int) + 1 == (l.length : Int) - 1) = true:=by rw [beq_iff_eq];omega
    clear hc h5 hla HE0
    (go_enter Tryz.func142,Tryz.ntmps142;go_wp2;go_ret;exact ⟨rfl,BLw⟩)
   ·rw [if_neg (fun e=>hla e.2)]
    have hd6 : (((j + 1 : Nat) : Int) == (l.length : Int) - 1) = false:=by rw [beq_eq_false_iff_ne];omega
    have hd6' : ((j : Int) + 1 == (l.length : Int) - 1) = false:=by rw [beq_eq_false_iff_ne];omega
    have HE:=hid HE0
    clear hc h5 hla HE0
    (go_enter Tryz.func142,Tryz.ntmps142;go_wp2_with (go_at_call 170;refine (HE.out _ BLw).mono ?_;rintro e w1 ⟨rfl,hb1⟩);go_ret;exact ⟨rfl,belows (B:=w.heap.size) (a:=w) BLw hb1 (by simp)⟩)
  ·rw [if_neg (fun e=>h5 e.1)]
   have hd5 : (c.t == 5) = false:=by simpa using h5
   have HE:=hid HE0
   clear hc h5 HE0
   (go_enter Tryz.func142,Tryz.ntmps142;go_wp2_with (go_at_call 170;refine (HE.out _ BLw).mono ?_;rintro e w1 ⟨rfl,hb1⟩);go_ret;exact ⟨rfl,belows (B:=w.heap.size) (a:=w) BLw hb1 (by simp)⟩)
end Go.Proofs.YtnojgiflgmnjlaaGreatDoor.L3
namespace Go.Proofs.YtnojgiflgmnjlaaGreatDoor.L3
open Go.RowKit
def errAt (l : List Cp.C) (i : Nat) : Int:=match l[i]? with
 | none=>0
 | some c=>if prevB l i = true then (if c = Cp.C0 then 0 else 31) else (if c.t = 5 ∧ i = l.length - 1 then 31 else ceOut c)
def CkIs (l : List Cp.C) (er : Int) : Prop:=(4096 < l.length ∧ er = 3) ∨ (l.length ≤ 4096 ∧ ((er = 0 ∧ ∀ i,i < l.length → errAt l i = 0) ∨ (∃ i,i < l.length ∧ errAt l i = er ∧ er ≠ 0 ∧ ∀ j,j < i → errAt l j = 0)))
theorem CkIs.det {l : List Cp.C} {a b : Int} (h : CkIs l a) (k : CkIs l b) : a = b:=by
 rcases h with ⟨h1,rfl⟩|⟨h1,h⟩
 ·rcases k with ⟨-,rfl⟩|⟨k1,-⟩
  ·rfl
  ·omega
 ·rcases k with ⟨k1,-⟩|⟨-,k⟩
  ·omega
  ·rcases h with ⟨rfl,h⟩|⟨i,hi,he,hn,h⟩
   ·rcases k with ⟨rfl,-⟩|⟨j,hj,ke,kn,-⟩
    ·rfl
    ·exact absurd (ke.symm.trans (h j hj)) kn
   ·rcases k with ⟨rfl,k⟩|⟨j,hj,ke,kn,k⟩
    ·exact absurd (he.symm.trans (k i hi)) hn
    ·rcases Nat.lt_trichotomy i j with hij|rfl|hij
     ·exact absurd (he.symm.trans (k i hij)) hn
     ·exact he.symm.trans ke
     ·exact absurd (ke.symm.trans (h j hij)) kn
set_option maxHeartbeats 400000 in
theorem check_any (l : List Cp.C) (v : Value) (w : World) (ht : Tabs w) (hv : Kit.IsS 5 w v l.length (l.flatMap cL)) (hs : ∀ c ∈ l,c.s.size ≤ 140737488355328) :
  Calls Tryz.prog 85 #[v] w fun e w'=>∃ er,CkIs l er ∧ e = .returned (.int .i64 er) ∧ Below w.heap.size w w':=by
 have HT:=hid (fun W (h : Below w.heap.size w W)=>ht.below h ht.size)
 have HV:=hid (fun W (h : Below w.heap.size w W)=>hv.below h (Nat.le_refl _))
 have HS:=hid hs
 have hlen:=hv.2.1
 obtain ⟨a,cap,rfl⟩:=hv.len
 clear hv ht hs
 by_cases hbig : 4096 < l.length
 ·have hd : decide (4096 < (l.length : Int)) = true:=by simp;omega
  have HC:=hid (show CkIs l 3 from .inl ⟨hbig,rfl⟩)
  clear hbig
  go_enter Tryz.func85,Tryz.ntmps85
  go_wp2
  go_ret
  exact ⟨3,HC.out,rfl,BLw⟩
 ·have hd : decide (4096 < (l.length : Int)) = false:=by simp;omega
  have hsm : l.length ≤ 4096:=by omega
  clear hbig
  go_enter Tryz.func85,Tryz.ntmps85
  go_wp2
  go_loopw [10] (fun i wr=>∃ k : Nat,k ≤ l.length ∧ i = .int .i64 k ∧ Hid (∀ j,j < k → errAt l j = 0) ∧ Below w.heap.size w wr) (fun i _=>l.length - (intOf i).toNat)
  case atStart=>exact ⟨0,by omega,rfl,fun j hj=>absurd hj (by omega),BLw⟩
  case round =>
   obtain ⟨k,hk,rfl,hz,hbl⟩:=hrel
   have hbz:=hbl.size
   by_cases hlt : k < l.length
   ·obtain ⟨c,hc⟩ : ∃ c,l[k]? = some c:=⟨l[k],List.getElem?_eq_getElem hlt⟩
    have HA0 : Calls Tryz.prog 142 #[.slice a l.length cap,.int .i64 k] wr fun e w'=>e = .returned (.int .i64 (errAt l k)) ∧ Below wr.heap.size wr w':=by
     unfold errAt
     rw [hc]
     dsimp only
     cases hp : prevB l k with
     | true=>rw [if_pos rfl];exact checkAt_none l k c _ wr (HV.out wr hbl) hc hp
     | false=>rw [if_neg (by simp)];exact checkAt_some l k c _ wr (HT.out wr hbl) (HV.out wr hbl) hc hp (HS.out c (List.mem_of_getElem? hc))
    have hki : (k : Int) < l.length:=by omega
    obtain ⟨er,her⟩ : ∃ er,er = errAt l k:=⟨_,rfl⟩
    rw [← her] at HA0
    have HA:=hid HA0
    by_cases h0 : er = 0
    ·have hnext:=hid (fun j (hj : j < k + 1)=>show errAt l j = 0 by
      rcases Nat.lt_or_ge j k with h|h
      ·exact hz.out j h
      ·rw [show j = k by omega,← her,h0])
     have hd5 : (er != 0) = false:=by simpa using h0
     clear HA0 hc her h0
     go_wp2_with (go_at_call 142;refine HA.out.mono ?_;rintro e w1 ⟨rfl,hb1⟩)
     go_roundw
     case rel=>exact ⟨k + 1,by omega,by go_num,hnext,belows hbl hb1 hbz⟩
     case measure=>simp [intOf];omega
    ·have HC:=hid (show CkIs l er from .inr ⟨hsm,.inr ⟨k,hlt,her.symm,h0,hz.out⟩⟩)
     have hd5 : (er != 0) = true:=by simpa using h0
     clear HA0 hc her h0
     go_wp2_with (go_at_call 142;refine HA.out.mono ?_;rintro e w1 ⟨rfl,hb1⟩)
     go_ret
     exact ⟨er,HC.out,rfl,belows hbl hb1 hbz⟩
   ·obtain rfl : k = l.length:=by omega
    have HC:=hid (show CkIs l 0 from .inr ⟨hsm,.inl ⟨rfl,hz.out⟩⟩)
    go_wp2
    go_ret
    exact ⟨0,HC.out,rfl,hbl⟩
end Go.Proofs.YtnojgiflgmnjlaaGreatDoor.L3
