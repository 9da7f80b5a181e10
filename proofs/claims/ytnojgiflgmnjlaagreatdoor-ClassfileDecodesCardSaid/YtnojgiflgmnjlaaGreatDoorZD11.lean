/- Own texts for the claim, part 11. -/
import Derived.Test.YtnojgiflgmnjlaaGreatDoorZD10
set_option maxRecDepth 100000
namespace Go.Proofs.YtnojgiflgmnjlaaGreatDoor.L2
open Go.RowKit
def tyC (y : Ds.Ty) : List Value:=[.int .i64 y.1,.string ⟨y.2.toArray⟩]
def OwnT (w : World) (base : Nat) (v : Value) (l : List Ds.Ty) : Prop:=w.ownsRow base 132 2 v l.length (l.flatMap tyC)
theorem nilT (w : World) (base : Nat) : OwnT w base (.slice none 0 0) []:=⟨rfl,.inl ⟨rfl,rfl⟩⟩
theorem A.infoTy : (Tryz.prog.info? 132).map (fun i=>(i.zero,i.size,i.bytes)) = some (some (.agg #[.int .i64 0,.string ⟨#[]⟩]),2,24):=by kernel_rfl
def MB (w : World) (B : Nat) (v : Value) (k : Int) (m : ByteArray) : Prop:=w.heap[B]? = some (.cells #[v,.int .i64 k,.string m] 181 (0,0))
theorem MB.sz {w : World} {B : Nat} {v : Value} {k : Int} {m : ByteArray} (h : MB w B v k m) : B < w.heap.size:=(Array.getElem?_eq_some_iff.1 h).1
theorem MB.grown {w w' : World} {B : Nat} {v : Value} {k : Int} {m : ByteArray} {row : Option Nat} (h : MB w B v k m) (hg : w.grownBy w' row) (hne : row ≠ some B) : MB w' B v k m:=(hg.block B h.sz (fun e=>hne e.symm)).trans h
theorem MB.alloc {w : World} {B : Nat} {v : Value} {k : Int} {m : ByteArray} (h : MB w B v k m) (o : Obj) : MB (w.alloc o) B v k m:=(Below.block ((Below.refl w.heap.size w).alloc (Nat.le_refl _) o) B h.sz).trans h
theorem MB.facts {w : World} {B : Nat} {v : Value} {k : Int} {m : ByteArray} (h : MB w B v k m) : w.cell? ⟨B,0,none⟩ = some v ∧ w.cell? ⟨B,1,none⟩ = some (.int .i64 k) ∧ w.cell? ⟨B,2,none⟩ = some (.string m) ∧ w.frozen? ⟨B,0,none⟩ = false ∧ w.frozen? ⟨B,1,none⟩ = false ∧ w.frozen? ⟨B,2,none⟩ = false:=by
 refine ⟨?_,?_,?_,?_,?_,?_⟩ <;> simp [World.cell?,World.frozen?,show w.heap[B]? = _ from h]
theorem MB.set0 {w : World} {B : Nat} {v : Value} {k : Int} {m : ByteArray} (h : MB w B v k m) (v' : Value) : MB (w.setCell ⟨B,0,none⟩ v') B v' k m:=by
 obtain ⟨hlt,hk⟩:=Array.getElem?_eq_some_iff.1 h
 show (w.heap.modify B _)[B]? = _
 rw [Array.getElem?_eq_getElem (by rw [Array.size_modify];exact hlt),Array.getElem_modify_self,hk]
 rfl
theorem cf_field (v : Value) (w : World) : (callFunc 149 #[v]).run Tryz.prog w = .ok (.enter 149 #[v]) w:=by kernel_rfl
def leftLen (pb : Nat) (w : World) : Nat:=match w.cell? ⟨pb,0,none⟩ with|some (.string t)=>t.size|_=>0
theorem Rd.leftLen {w : World} {pb mb : Nat} {t : ByteArray} (h : Rd w pb mb t) : leftLen pb w = t.size:=by unfold Go.Proofs.YtnojgiflgmnjlaaGreatDoor.L2.leftLen;rw [h.left]
theorem Rd.grown {w w' : World} {pb mb : Nat} {t : ByteArray} {row : Option Nat} (h : Rd w pb mb t) (hg : w.grownBy w' row) (hne : row ≠ some pb) (hne2 : row ≠ some mb) : Rd w' pb mb t:=by
 refine ⟨(hg.block pb h.sz (fun e=>hne e.symm)).trans h.cells,?_,h.lt⟩
 obtain ⟨es,clock,h1,h2,h3,h4⟩:=h.kmap
 exact ⟨es,clock,(hg.block mb (by have:=h.sz;have:=h.lt;omega) (fun e=>hne2 e.symm)).trans h1,h2,h3,h4⟩
theorem set_grown (w : World) (B j : Nat) (u : Value) : w.grownBy (w.setCell ⟨B,j,none⟩ u) (some B):=⟨rfl,rfl,rfl,by simp,fun i _ hne=>Below.heap_setCell _ _ _ i (fun e=>hne (by rw [e]))⟩
theorem skip_step (pb mb : Nat) (t : ByteArray) (c : UInt8) (l : List UInt8) (z : Int) (w : World) (hr : Rd w pb mb t) (h : Ds.bl t = c :: l) (he : (c.toNat : Int) = z) : Calls Tryz.prog 177 #[.pointer (some ⟨pb,0,none⟩),.int .u8 z] w fun e w'=>e = .returned (.bool true) ∧ Step pb mb (t.extract 1 t.size) w w' :=
 (skip_yes pb mb t c l z w hr h he).mono fun _ _ ⟨he,hw⟩=>⟨he,by subst hw;exact ⟨grownBy_setCell' _ _ _,hr.set _⟩⟩
structure Fin (pb mb base : Nat) (w w' : World) (v : Value) (xs : List Ds.Ty) (q : ByteArray) : Prop where
 rd : Rd w' pb mb q
 own : OwnT w' base v xs
 grown : w.grownBy w' (some pb)
theorem Fin.set {pb mb base : Nat} {w w' : World} {v : Value} {xs : List Ds.Ty} {q : ByteArray} (h : Fin pb mb base w w' v xs q) (hp : pb < w.heap.size) {B : Nat} (hB : w.heap.size ≤ B) (hb : B < base) (j : Nat) (u : Value) : Fin pb mb base w (w'.setCell ⟨B,j,none⟩ u) v xs q:=by
 have hm:=h.rd.lt
 exact ⟨h.rd.grown (set_grown _ (B) j _) (by simp;omega) (by simp;omega),Kit.owns_grown h.own (set_grown _ (B) j _) hb,Kit.grown_own h.grown (set_grown _ (B) j _) (fun k e=>by have:=Option.some.inj e;omega)⟩
theorem Fin.below {pb mb base : Nat} {w w' w2 : World} {v : Value} {xs : List Ds.Ty} {q : ByteArray} (h : Fin pb mb base w w' v xs q) (hb : Below w'.heap.size w' w2) : Fin pb mb base w w2 v xs q :=
 ⟨h.rd.below hb h.rd.sz,Kit.owns_below h.own hb (Nat.le_refl _),grown_trans h.grown (grown_of_below hb _)⟩
theorem Fin.step {pb mb base : Nat} {w w' w2 : World} {v : Value} {xs : List Ds.Ty} {q q2 : ByteArray} (h : Fin pb mb base w w' v xs q) (hp : pb < base) (hs : Step pb mb q2 w' w2) : Fin pb mb base w w2 v xs q2 :=
 ⟨hs.2,Kit.owns_grown h.own hs.1 hp,grown_trans h.grown hs.1⟩
structure MSt (pb mb : Nat) (w w' : World) (v : Value) (xs : List Ds.Ty) (q : ByteArray) : Prop where
 fin : Fin pb mb (w.heap.size + 2) w w' v xs q
 box : MB w' (w.heap.size + 1) v 0 ⟨#[]⟩
 out : MB w' w.heap.size (.slice none 0 0) 0 ⟨#[]⟩
theorem MSt.below {pb mb : Nat} {w w' w2 : World} {v : Value} {xs : List Ds.Ty} {q : ByteArray} (h : MSt pb mb w w' v xs q) (hb : Below w'.heap.size w' w2) : MSt pb mb w w2 v xs q :=
 ⟨h.fin.below hb,h.box.grown (grown_of_below hb none) (by simp),h.out.grown (grown_of_below hb none) (by simp)⟩
theorem MSt.step {pb mb : Nat} {w w' w2 : World} {v : Value} {xs : List Ds.Ty} {q q2 : ByteArray} (h : MSt pb mb w w' v xs q) (hp : pb < w.heap.size) (hs : Step pb mb q2 w' w2) : MSt pb mb w w2 v xs q2 :=
 ⟨h.fin.step (by omega) hs,h.box.grown hs.1 (by simp;omega),h.out.grown hs.1 (by simp;omega)⟩
theorem own_block {w : World} {base : Nat} {e : TypeId} {size : Nat} {v : Value} {n : Nat} {xs : List Value} (h : w.ownsRow base e size v n xs) {b : Nat} (hb : b < base) : v.ownBlock ≠ some b:=fun e=>by have:=Kit.own_base h b e;omega
theorem own_form {w : World} {base : Nat} {e : TypeId} {size : Nat} {v : Value} {n : Nat} {xs : List Value} (h : w.ownsRow base e size v n xs) : ∃ a cap,v = .slice a n cap:=by
 rcases h.2 with ⟨rfl,rfl⟩|⟨g,cap,cur,rfl,-⟩
 ·exact ⟨none,0,rfl⟩
 ·exact ⟨_,cap,rfl⟩
theorem MSt.append {pb mb : Nat} {w w' w2 : World} {v v' : Value} {xs : List Ds.Ty} {q : ByteArray} {y : Ds.Ty} (h : MSt pb mb w w' v xs q) (hp : pb < w.heap.size) (hg : w'.grownBy w2 v.ownBlock) (ho : w2.ownsRow (w.heap.size + 2) 132 2 v' (xs.length + 1) (xs.flatMap tyC ++ tyC y)) :
  Fin pb mb (w.heap.size + 2) w w2 v' (xs ++ [y]) q ∧ MB w2 (w.heap.size + 1) v 0 ⟨#[]⟩ ∧ MB w2 w.heap.size (.slice none 0 0) 0 ⟨#[]⟩:=by
 have hm:=h.fin.rd.lt
 refine ⟨⟨h.fin.rd.grown hg (own_block h.fin.own (by omega)) (own_block h.fin.own (by omega)),?_,Kit.grown_own h.fin.grown hg (fun j e=>by have:=Kit.own_base h.fin.own j e;omega)⟩,h.box.grown hg (own_block h.fin.own (by omega)),h.out.grown hg (own_block h.fin.own (by omega))⟩
 unfold OwnT
 rw [List.length_append,List.flatMap_append]
 simpa using ho
theorem MSt.close {pb mb : Nat} {w w2 : World} {v v' : Value} {xs : List Ds.Ty} {q : ByteArray} (h : Fin pb mb (w.heap.size + 2) w w2 v' xs q ∧ MB w2 (w.heap.size + 1) v 0 ⟨#[]⟩ ∧ MB w2 w.heap.size (.slice none 0 0) 0 ⟨#[]⟩) (hp : pb < w.heap.size) : MSt pb mb w (w2.setCell ⟨w.heap.size + 1,0,none⟩ v') v' xs q :=
 ⟨h.1.set hp (by omega) (by omega) 0 _,h.2.1.set0 _,h.2.2.grown (set_grown _ (w.heap.size + 1) 0 _) (by simp)⟩
theorem news_ty (w : World) (k : Int) (m : ByteArray) : ∀ j u,[Value.int .i64 k,.string m][j]? = some u → (w.alloc (.cells #[.int .i64 k,.string m] 132)).cell? ((⟨w.heap.size,0,none⟩ : Addr).add j) = some u:=by
 intro j u hj
 match j,hj with
 | 0,hj=>simp at hj;subst hj;simp [Addr.add,go_sem]
 | 1,hj=>simp at hj;subst hj;simp [Addr.add,go_sem]
theorem ones_ty (k : Int) (m : ByteArray) : ∀ u ∈ [Value.int .i64 k,.string m],u.oneCell' = true:=by
 intro u hu;simp at hu;rcases hu with rfl|rfl <;> rfl
theorem own_mono {w : World} {base base' : Nat} {e : TypeId} {size : Nat} {v : Value} {n : Nat} {xs : List Value} (h : w.ownsRow base e size v n xs) (hb : base' ≤ base) : w.ownsRow base' e size v n xs:=by
 obtain ⟨h1,h2⟩:=h
 refine ⟨h1,?_⟩
 rcases h2 with h2|⟨g,cap,cur,hv,hg,r⟩
 ·exact .inl h2
 ·exact .inr ⟨g,cap,cur,hv,by omega,r⟩
theorem fin_close {pb mb : Nat} {w w' : World} {v : Value} {xs : List Ds.Ty} {q : ByteArray} (h : Fin pb mb (w.heap.size + 2) w w' v xs q) (hp : pb < w.heap.size) (a b c d e : Value) :
  OwnT (((((w'.setCell ⟨w.heap.size + 1,1,none⟩ a).setCell ⟨w.heap.size + 1,2,none⟩ b).setCell ⟨w.heap.size,0,none⟩ c).setCell ⟨w.heap.size,1,none⟩ d).setCell ⟨w.heap.size,2,none⟩ e) w.heap.size v xs ∧
  Step pb mb q w (((((w'.setCell ⟨w.heap.size + 1,1,none⟩ a).setCell ⟨w.heap.size + 1,2,none⟩ b).setCell ⟨w.heap.size,0,none⟩ c).setCell ⟨w.heap.size,1,none⟩ d).setCell ⟨w.heap.size,2,none⟩ e):=by
 have h5:=((((h.set hp (B:=w.heap.size + 1) (by omega) (by omega) 1 a).set hp (B:=w.heap.size + 1) (by omega) (by omega) 2 b).set hp (B:=w.heap.size) (by omega) (by omega) 0 c).set hp (B:=w.heap.size) (by omega) (by omega) 1 d).set hp (B:=w.heap.size) (by omega) (by omega) 2 e
 exact ⟨own_mono h5.own (by omega),h5.grown,h5.rd⟩
def MdPost (pb mb : Nat) (w : World) (x : Option (List Ds.Ty × Ds.Ty × List UInt8)) (e : Ending) (w' : World) : Prop:=match x with
 | none=>Bad pb w e w'
 | some (a,y,s)=>∃ v q,e = .returned (.agg #[v,.int .i64 y.1,.string ⟨y.2.toArray⟩]) ∧ OwnT w' w.heap.size v a ∧ Ds.bl q = s ∧ Step pb mb q w w'
def MethodPost (pb mb : Nat) (t : ByteArray) (w : World) : Ending → World → Prop:=MdPost pb mb w (Ds.md (Ds.bl t))
set_option maxHeartbeats 4000000 in
theorem method_open (pb mb : Nat) (t : ByteArray) (l : List UInt8) (w : World) (hr : Rd w pb mb t) (h : Ds.bl t = 40 :: l) (hs : t.size ≤ 255) :
  Calls Tryz.prog 151 #[.pointer (some ⟨pb,0,none⟩)] w (MethodPost pb mb t w):=by
 have cl:=hr.left
 have hps:=hr.sz
 have hmp:=hr.lt
 have HT:=hid (fun W (hW : Below w.heap.size w W)=>take_step pb mb t 40 l W (hr.below hW hps) h)
 rw [show MethodPost pb mb t w = MdPost pb mb w (Ds.mdA [] (l.length + 1) l) by unfold MethodPost;rw [h];rfl]
 obtain ⟨z1,z2⟩:=rest_size h
 have hb1:=hid (rest_at h)
 obtain ⟨i0,hi,hz0,hz1,hz2⟩:=info_parts A.infoTy
 clear hr h
 go_enter Tryz.func151,Tryz.ntmps151
 go_wp2_with (go_at_call 173;refine (HT.out _ BLw).mono ?_;rintro e w1 ⟨rfl,hg1,hr1⟩;have HR1:=hid hr1;have HG1:=hid hg1;clear hr1 hg1)
 go_loopw [] (fun wr=>∃ v xs q f,MSt pb mb w wr v xs q ∧ (Ds.bl q).length < f ∧ xs.length + q.size ≤ 255 ∧ Ds.mdA xs f (Ds.bl q) = Ds.mdA [] (l.length + 1) l) (fun wr=>leftLen pb wr)
 case atStart =>
  refine ⟨_,[],_,l.length + 1,⟨⟨HR1.out,nilT _ _,?_⟩,?_,?_⟩,?_,?_,?_⟩
  ·exact box_grown (box_grown HG1.out)
  ·have q1:=World.alloc_heap_new (w.alloc (.cells #[.slice none 0 0,.int .i64 0,.string ⟨#[]⟩] 181)) (.cells #[.slice none 0 0,.int .i64 0,.string ⟨#[]⟩] 181)
   rw [World.size_alloc] at q1
   exact (show MB _ _ _ _ _ from q1).grown HG1.out (by simp;omega)
  ·exact ((show MB _ _ _ _ _ from World.alloc_heap_new _ _).alloc _).grown HG1.out (by simp;omega)
  ·rw [hb1.out];omega
  ·rw [List.length_nil];omega
  ·rw [hb1.out]
 case round =>
  obtain ⟨v,xs,q,f,hst,hf,hsz,hmd⟩:=hrel
  obtain ⟨f,rfl⟩ : ∃ f',f = f' + 1:=⟨f - 1,by omega⟩
  have HRd:=hid (fun W (hW : Below wr.heap.size wr W)=>hst.fin.rd.below hW hst.fin.rd.sz)
  have HSt:=hid hst
  have HF0:=fun W (hW : Rd W pb mb q)=>field_rd pb mb _ q W hW rfl (by omega)
  obtain ⟨c0,c1,c2,f0,f1,f2⟩:=hst.box.facts
  cases hq : Ds.bl q with
  | nil =>
   have HS:=hid (fun W (hW : Rd W pb mb q)=>skip_none pb mb q 41 W hW hq)
   unfold FieldPost at HF0
   rw [hq] at HF0 hmd
   rw [Ds.mdA_nil] at hmd
   have HF : Hid (∀ W,Rd W pb mb q → Calls Tryz.prog 149 #[.pointer (some ⟨pb,0,none⟩)] W (Bad pb W)):=HF0
   have HMd:=hid hmd
   unfold Bad bad at HF
   clear HF0 hmd hst hq
   go_wp2_with (go_at_call 177;refine (HS.out _ (HRd.out _ BLw)).mono ?_;rintro e w2 ⟨rfl,rfl⟩)
   go_region_dies
   all_goals
    refine (HF.out _ (HRd.out _ BLw)).mono ?_
    rintro e w2 ⟨rfl,hg2⟩
    try dsimp only
    try go_wp2
   all_goals exact ⟨rfl,by rw [← HMd.out];exact ⟨rfl,grown_trans (grown_trans HSt.out.fin.grown (grown_of_below ((Below.refl _ _).drew) _)) hg2⟩⟩
  | cons c lq =>
   by_cases hc : c = 41
   ·subst hc
    have HS:=hid (fun W (hW : Rd W pb mb q)=>skip_step pb mb q 41 lq 41 W hW hq rfl)
    rw [hq,Ds.mdA_shut] at hmd
    have hb2:=rest_at hq
    have hq1s:=(rest_size hq).1
    obtain ⟨q1,hq1⟩ : ∃ q1,q1 = q.extract 1 q.size:=⟨_,rfl⟩
    rw [← hq1] at HS hb2 hq1s
    have hqs : q.size = lq.length + 1:=(rest_size hq).2
    have HF1:=fun W (hW : Rd W pb mb q1)=>field_rd pb mb _ q1 W hW rfl (by omega)
    unfold FieldPost at HF1
    rw [hb2] at HF1
    have hps2 : w.heap.size < w.heap.size + 2:=by omega
    cases lq with
    | nil =>
     have HS2:=hid (fun W (hW : Rd W pb mb q1)=>skip_none pb mb q1 86 W hW hb2)
     have HF : Hid (∀ W,Rd W pb mb q1 → Calls Tryz.prog 149 #[.pointer (some ⟨pb,0,none⟩)] W (Bad pb W)):=HF1
     have HMd:=hid hmd
     unfold Bad bad at HF
     clear HF0 HF1 hmd hst hq hq1 hb2
     go_wp2_with (first
      | (go_at_call 177;refine (HS2.out _ HSt2.out.fin.rd).mono ?_;rintro e w3 ⟨rfl,rfl⟩)
      | (go_at_call 177;refine (HS.out _ (HRd.out _ BLw)).mono ?_;rintro e w2 ⟨rfl,hs2⟩;have HSt2:=hid (MSt.step HSt.out hps hs2);clear hs2)
      | (go_at_call 149;refine (HF.out _ HSt2.out.fin.rd).mono ?_;rintro e w3 ⟨rfl,hg3⟩))
     exact ⟨rfl,by rw [← HMd.out];exact ⟨rfl,grown_trans HSt2.out.fin.grown hg3⟩⟩
    | cons c2 l2 =>
     obtain ⟨sa,sc,rfl⟩:=own_form hst.fin.own
     by_cases hc2 : c2 = 86
     ·subst hc2
      have HS2:=hid (fun W (hW : Rd W pb mb q1)=>skip_step pb mb q1 86 l2 86 W hW hb2 rfl)
      have HMd:=hid hmd
      have HB2:=hid (rest_at hb2)
      clear HF0 HF1 hmd hst hq hq1 hb2
      go_wp2_with (first
       | (go_at_call 177;refine (HS2.out _ HSt2.out.fin.rd).mono ?_;rintro e w3 ⟨rfl,hs3⟩;have HSt3:=hid (MSt.step HSt2.out hps hs3);obtain ⟨d0,d1,d2,g0,g1,g2⟩:=HSt3.out.box.facts;obtain ⟨k0,k1,k2,j0,j1,j2⟩:=HSt3.out.out.facts;clear hs3)
       | (go_at_call 177;refine (HS.out _ (HRd.out _ BLw)).mono ?_;rintro e w2 ⟨rfl,hs2⟩;have HSt2:=hid (MSt.step HSt.out hps hs2);clear hs2))
      have HC:=fin_close HSt3.out.fin hps (.int .i64 0) (.string ⟨#[]⟩) (.slice sa xs.length sc) (.int .i64 0) (.string ⟨#[]⟩)
      exact bodyPost_ret (v:=.agg #[.slice sa xs.length sc,.int .i64 0,.string ⟨#[]⟩]) (by simp [results,Tryz.results151,go_sem,k0,k1,k2]) rfl (by rw [← HMd.out,show Ds.retM xs (86 :: l2) = some (xs,((0,[]),l2)) from by simp [Ds.retM,Ds.retF]];exact ⟨_,_,rfl,HC.1,HB2.out,HC.2⟩)
     ·have HS2:=hid (fun W (hW : Rd W pb mb q1)=>skip_other pb mb q1 c2 l2 86 W hW hb2 (fun e=>hc2 (UInt8.toNat_inj.1 (by rw [show (86 : UInt8).toNat = 86 from rfl];omega))))
      have hret : Ds.retM xs (c2 :: l2) = match Ds.rd (c2 :: l2) with|none=>none|some (k,m,n)=>some (xs,((k,m),(c2 :: l2).drop n)):=by
       unfold Ds.retM Ds.retF
       dsimp only
       rw [if_neg hc2]
       cases Ds.rd (c2 :: l2) with
       | none=>rfl
       | some y=>rfl
      cases hrd : Ds.rd (c2 :: l2) with
      | none =>
       rw [hrd] at HF1 hret
       have HF : Hid (∀ W,Rd W pb mb q1 → Calls Tryz.prog 149 #[.pointer (some ⟨pb,0,none⟩)] W (Bad pb W)):=HF1
       rw [hret] at hmd
       have HMd:=hid hmd
       unfold Bad bad at HF
       clear HF0 HF1 hmd hst hq hq1 hb2 hret hrd
       go_wp2_with (first
        | (go_at_call 177;refine (HS2.out _ HSt2.out.fin.rd).mono ?_;rintro e w3 ⟨rfl,rfl⟩)
        | (go_at_call 177;refine (HS.out _ (HRd.out _ BLw)).mono ?_;rintro e w2 ⟨rfl,hs2⟩;have HSt2:=hid (MSt.step HSt.out hps hs2);clear hs2)
        | (go_at_call 149;refine (HF.out _ HSt2.out.fin.rd).mono ?_;rintro e w3 ⟨rfl,hg3⟩))
       exact ⟨rfl,by rw [← HMd.out];exact ⟨rfl,grown_trans HSt2.out.fin.grown hg3⟩⟩
      | some y =>
       obtain ⟨k,m,n⟩:=y
       rw [hrd] at HF1 hret
       dsimp only at HF1 hret
       have HF : Hid (∀ W,Rd W pb mb q1 → Calls Tryz.prog 149 #[.pointer (some ⟨pb,0,none⟩)] W (FieldOk pb mb k m (q1.extract n q1.size) W)):=HF1
       rw [hret] at hmd
       have HMd:=hid hmd
       have HB2:=hid (show Ds.bl (q1.extract n q1.size) = (c2 :: l2).drop n by rw [ext_drop,hb2])
       unfold FieldOk tyV at HF
       clear HF0 HF1 hmd hst hq hq1 hb2 hret hrd
       go_wp2_with (first
        | (go_at_call 177;refine (HS2.out _ HSt2.out.fin.rd).mono ?_;rintro e w3 ⟨rfl,rfl⟩)
        | (go_at_call 177;refine (HS.out _ (HRd.out _ BLw)).mono ?_;rintro e w2 ⟨rfl,hs2⟩;have HSt2:=hid (MSt.step HSt.out hps hs2);clear hs2)
        | (go_at_call 149;refine (HF.out _ HSt2.out.fin.rd).mono ?_;rintro e w3 ⟨rfl,hs3⟩;have HSt3:=hid (MSt.step HSt2.out hps hs3);obtain ⟨d0,d1,d2,g0,g1,g2⟩:=HSt3.out.box.facts;obtain ⟨k0,k1,k2,j0,j1,j2⟩:=HSt3.out.out.facts;clear hs3))
       have HC:=fin_close HSt3.out.fin hps (.int .i64 k) (.string ⟨m.toArray⟩) (.slice sa xs.length sc) (.int .i64 k) (.string ⟨m.toArray⟩)
       exact bodyPost_ret (v:=.agg #[.slice sa xs.length sc,.int .i64 k,.string ⟨m.toArray⟩]) (by simp [results,Tryz.results151,go_sem,k0,k1,k2]) rfl (by rw [← HMd.out];exact ⟨_,_,rfl,HC.1,HB2.out,HC.2⟩)
   ·have HS:=hid (fun W (hW : Rd W pb mb q)=>skip_other pb mb q c lq 41 W hW hq (fun e=>hc (UInt8.toNat_inj.1 (by rw [show (41 : UInt8).toNat = 41 from rfl];omega))))
    unfold FieldPost at HF0
    rw [hq] at HF0 hmd hf
    cases hrd : Ds.rd (c :: lq) with
    | none =>
     rw [Ds.mdA_bad hc hrd] at hmd
     rw [hrd] at HF0
     have HF : Hid (∀ W,Rd W pb mb q → Calls Tryz.prog 149 #[.pointer (some ⟨pb,0,none⟩)] W (Bad pb W)):=HF0
     have HMd:=hid hmd
     unfold Bad bad at HF
     clear HF0 hmd hst hq hrd hc
     go_wp2_with (go_at_call 177;refine (HS.out _ (HRd.out _ BLw)).mono ?_;rintro e w2 ⟨rfl,rfl⟩)
     go_region_dies
     all_goals
      refine (HF.out _ (HRd.out _ BLw)).mono ?_
      rintro e w2 ⟨rfl,hg2⟩
      try dsimp only
      try go_wp2
     all_goals exact ⟨rfl,by rw [← HMd.out];exact ⟨rfl,grown_trans (grown_trans HSt.out.fin.grown (grown_of_below ((Below.refl _ _).drew) _)) hg2⟩⟩
    | some y =>
     obtain ⟨k,m,n⟩:=y
     have hrl:=Ds.rd_len hrd
     rw [Ds.mdA_step hc hrd,← hq,← ext_drop] at hmd
     rw [hrd] at HF0
     have hqs : (Ds.bl (q.extract n q.size)).length = q.size - n:=by rw [ext_drop,List.length_drop,bl_len]
     obtain ⟨q2,hq2⟩ : ∃ q2,q2 = q.extract n q.size:=⟨_,rfl⟩
     rw [← hq2] at hmd hqs
     dsimp only at HF0
     rw [← hq2] at HF0
     have hql : q.size = (c :: lq).length:=by rw [← hq,bl_len]
     have hq2l:=bl_len q2
     have HF : Hid (∀ W,Rd W pb mb q → Calls Tryz.prog 149 #[.pointer (some ⟨pb,0,none⟩)] W (FieldOk pb mb k m q2 W)):=HF0
     have HMd:=hid hmd
     unfold FieldOk tyV at HF
     have HLl:=hid hst.fin.rd.leftLen
     clear HF0 hmd hst hq hrd hc hq2
     go_wp2_with (go_at_call 177;refine (HS.out _ (HRd.out _ BLw)).mono ?_;rintro e w2 ⟨rfl,rfl⟩)
     go_region_law (first
      | (refine Kit.step_append_own rfl (.tmp 12) (.tmp 15) 137 rfl (w.heap.size + 2) 132 i0 _ 2 24 Tryz.underlying137 hi hz0 hz1 hz2 rfl (by decide) v xs.length (xs.flatMap tyC) rfl (Kit.owns_below HSt2.out.fin.own ((Below.refl _ _).alloc (Nat.le_refl _) _) (Nat.le_refl _)) ⟨w2.heap.size,0,none⟩ 1 1 [.int .i64 k,.string ⟨m.toArray⟩] rfl rfl (news_ty _ _ _) (ones_ty _ _) (by unfold maxLen;omega) (by omega) (by simp only [World.size_alloc];omega) ?_;intro v' w3 ho3 hg3 hk3;have HA:=hid (MSt.append (y:=(k,m)) (HSt2.out.below ((Below.refl _ _).alloc (Nat.le_refl _) _)) hps hg3 ho3);obtain ⟨av,cv,rfl⟩:=own_form ho3;obtain ⟨e1,-,-,e0,-,-⟩:=HA.out.2.1.facts;clear ho3 hg3 hk3)
      | (refine Kit.step_call1 rfl 149 (.tmp 13) 177 rfl _ rfl (cf_field _ _) _ (HF.out _ ?_) ?_;exact HRd.out _ BLw;rintro e w2 ⟨rfl,hs2⟩;refine ⟨_,rfl,?_⟩;have HSt2:=hid (MSt.step (HSt.out.below ((Below.refl _ _).drew)) hps hs2);obtain ⟨d0,-,-,g0,-,-⟩:=HSt2.out.box.facts;have hsz2:=HSt2.out.box.sz;clear hs2))
     all_goals
      go_wp2
      go_roundw
      case rel=>exact ⟨_,xs ++ [(k,m)],q2,f,MSt.close HA.out hps,by omega,by rw [List.length_append,List.length_singleton];omega,HMd.out⟩
      case measure=>rw [(MSt.close HA.out hps).fin.rd.leftLen,HLl.out];omega
set_option maxHeartbeats 400000 in
theorem method_bad0 (pb mb : Nat) (t : ByteArray) (w : World) (hr : Rd w pb mb t) (h : Ds.bl t = []) :
  Calls Tryz.prog 151 #[.pointer (some ⟨pb,0,none⟩)] w (Bad pb w):=by
 unfold Bad bad
 have hps:=hr.sz
 have HT:=hid (fun W (hW : Below w.heap.size w W)=>take_bad pb mb t W (hr.below hW hps) h)
 clear hr h
 unfold bad at HT
 go_enter Tryz.func151,Tryz.ntmps151
 go_wp2_with (go_at_call 173;refine (HT.out _ BLw).mono ?_;rintro e w1 ⟨rfl,rfl⟩)
 exact ⟨rfl,rfl,grown_of_below BLw _⟩
set_option maxHeartbeats 400000 in
theorem method_badK (pb mb : Nat) (t : ByteArray) (c : UInt8) (l : List UInt8) (w : World) (hr : Rd w pb mb t) (h : Ds.bl t = c :: l) (hk : ((c.toNat : Int) == 40) = false) :
  Calls Tryz.prog 151 #[.pointer (some ⟨pb,0,none⟩)] w (Bad pb w):=by
 unfold Bad bad
 have hps:=hr.sz
 have hkn : ((c.toNat : Int) != 40) = true:=by rw [bne,hk];rfl
 have HT:=hid (fun W (hW : Below w.heap.size w W)=>take_step pb mb t c l W (hr.below hW hps) h)
 clear hr h
 go_enter Tryz.func151,Tryz.ntmps151
 go_wp2_with (go_at_call 173;refine (HT.out _ BLw).mono ?_;rintro e w1 ⟨rfl,hg1,hr1⟩)
 exact ⟨rfl,rfl,box_grown (box_grown hg1)⟩
theorem method_rd (pb mb : Nat) (t : ByteArray) (w : World) (hr : Rd w pb mb t) (hs : t.size ≤ 255) :
  Calls Tryz.prog 151 #[.pointer (some ⟨pb,0,none⟩)] w (MethodPost pb mb t w):=by
 cases h : Ds.bl t with
 | nil =>
  have:=method_bad0 pb mb t w hr h
  unfold MethodPost;rw [h];exact this
 | cons c l =>
  by_cases hc : c = 40
  ·subst hc;exact method_open pb mb t l w hr h hs
  ·have:=method_badK pb mb t c l w hr h (u8_ne hc)
   unfold MethodPost;rw [h];unfold Ds.md;dsimp only;rw [if_neg hc];exact this
end Go.Proofs.YtnojgiflgmnjlaaGreatDoor.L2
namespace Go.Proofs.YtnojgiflgmnjlaaGreatDoor.L2
open Go.RowKit
theorem A.eqBad (w : World) : (binOp .eql 20 (.iface 27 (.int .i64 20)) (.iface 27 (.int .i64 20))).run Tryz.prog w = .ok (.bool true) w:=by kernel_rfl
theorem A.eqNone (w : World) : (binOp .eql 20 .nilIface (.iface 27 (.int .i64 20))).run Tryz.prog w = .ok (.bool false) w:=by kernel_rfl
theorem A.neNone (w : World) : (binOp .neq 20 .nilIface .nilIface).run Tryz.prog w = .ok (.bool false) w:=by kernel_rfl
theorem catchT_panicking (p : Addr) (x : Value) (older : List PanicEntry) (w : World) (hc : w.cell? p = some x) (hz : w.frozen? p = false) :
  CallsD Tryz.prog 171 #[.pointer (some p)] (.panicking ({ v:=.iface 27 (.int .i64 20),recovered:=false } :: older)) w fun e u' w' =>
   e = .returned (.tuple #[]) ∧ u' = .panicking ({ v:=.iface 27 (.int .i64 20),recovered:=true } :: older) ∧ w' = w.setCell p (.int .i64 20):=by
 refine callsD_of_wpS Tryz.func171 rfl fun c₀ cs hu=>?_
 apply wpS_seq
 apply wpS_region
 simp [wpOpsS,go_sem,recoverD,hu,Tryz.ntmps171,Exit.thenS]
 have q1:=A.eqBad
 refine wpS_of_wp ?_
 go_wp2
 simp [bodyPostS,results,Tryz.results171]
theorem catchT_idle (p : Addr) (w : World) :
  CallsD Tryz.prog 171 #[.pointer (some p)] .returning w fun e u' w'=>e = .returned (.tuple #[]) ∧ u' = .returning ∧ w = w':=by
 refine callsD_of_wpS Tryz.func171 rfl fun c₀ cs hu=>?_
 apply wpS_seq
 apply wpS_region
 simp [wpOpsS,go_sem,recoverD,hu,Tryz.ntmps171,Exit.thenS]
 have q2:=A.eqNone
 have q3:=A.neNone
 refine wpS_of_wp ?_
 go_wp2
 cases c₀
 simp_all [bodyPostS,results,Tryz.results171]
def EB (w : World) (B : Nat) (z : Int) : Prop:=w.heap[B]? = some (.cells #[.int .i64 z] 27 (0,0))
theorem EB.new (w : World) (z : Int) : EB (w.alloc (.cells #[.int .i64 z] 27)) w.heap.size z:=World.alloc_heap_new w _
theorem EB.sz {w : World} {B : Nat} {z : Int} (h : EB w B z) : B < w.heap.size:=(Array.getElem?_eq_some_iff.1 h).1
theorem EB.grown {w w' : World} {B : Nat} {z : Int} {row : Option Nat} (h : EB w B z) (hg : w.grownBy w' row) (hne : row ≠ some B) : EB w' B z:=(hg.block B h.sz (fun e=>hne e.symm)).trans h
theorem EB.below {w w' : World} {B n : Nat} {z : Int} (h : EB w B z) (hb : Below n w w') (hn : B < n) : EB w' B z:=(hb.block B hn).trans h
theorem EB.facts {w : World} {B : Nat} {z : Int} (h : EB w B z) : w.cell? ⟨B,0,none⟩ = some (.int .i64 z) ∧ w.frozen? ⟨B,0,none⟩ = false:=by
 refine ⟨?_,?_⟩ <;> simp [World.cell?,World.frozen?,show w.heap[B]? = _ from h]
theorem RB.below {w w' : World} {B n : Nat} (h : RB w B) (hb : Below n w w') (hn : B < n) : RB w' B:=(hb.block B hn).trans h
theorem rd_new {w : World} {mb : Nat} (s : ByteArray) (hk : KMap w mb) (hm : mb < w.heap.size) : Rd (w.alloc (.cells #[.string s,.map (some mb)] 209)) w.heap.size mb s :=
 ⟨World.alloc_heap_new w _,hk.below ((Below.refl w.heap.size w).alloc (Nat.le_refl _) _) hm,hm⟩
theorem boxes (w w1 : World) (h : Below (w.heap.size + 1 + 1) ((w.alloc (.cells #[.int .i64 0,.string ⟨#[]⟩] 132)).alloc (.cells #[.int .i64 0] 27)) w1) (o : Obj) :
  RB (w1.alloc o) w.heap.size ∧ EB (w1.alloc o) (w.heap.size + 1) 0 ∧ Below w.heap.size w (w1.alloc o) ∧ w.heap.size + 2 ≤ w1.heap.size:=by
 have hz:=h.size
 simp only [World.size_alloc] at hz
 have e1:=EB.new (w.alloc (.cells #[.int .i64 0,.string ⟨#[]⟩] 132)) 0
 rw [World.size_alloc] at e1
 have ha:=(Below.refl w1.heap.size w1).alloc (Nat.le_refl _) o
 refine ⟨?_,?_,?_,by omega⟩
 ·exact (((RB.new w).below (n:=w.heap.size + 1) ((Below.refl _ _).alloc (by simp) _) (by omega)).below h (by omega)).below ha (by omega)
 ·exact (e1.below h (by omega)).below ha (by omega)
 ·exact (belows (b:=(w.alloc (.cells #[.int .i64 0,.string ⟨#[]⟩] 132)).alloc (.cells #[.int .i64 0] 27)) BLw (h.mono (by simp only [World.size_alloc];omega)) (by simp only [World.size_alloc];omega)).alloc (by omega) _
theorem A.mkF (fn : Fn) (first cap : Array Value) (w : World) : (Instr.makeFunc fn first cap).run Tryz.prog w = .ok (.func fn first cap) w:=rfl
def fieldFn : Value:=.func (.func 149) #[] #[]
set_option maxHeartbeats 400000 in
theorem wholeT_long (s : ByteArray) (w : World) (hs : 255 < s.size) :
  Calls Tryz.prog 148 #[.string s,fieldFn] w fun e w'=>e = .returned (.tuple #[tyV 0 [],.int .i64 3]) ∧ Below w.heap.size w w':=by
 unfold fieldFn tyV
 have hd : decide (255 < (s.size : Int)) = true:=by simp;omega
 go_enter_defers Tryz.func148,Tryz.ntmps148
 go_wp2
 exact ⟨_,by simp [results,Tryz.results148,go_sem],rfl,BLw⟩
set_option maxHeartbeats 400000 in
theorem wholeT_ok (s : ByteArray) (k : Int) (m : List UInt8) (w : World) (hs : s.size ≤ 255) (h : Ds.rd (Ds.bl s) = some (k,m,s.size)) :
  Calls Tryz.prog 148 #[.string s,fieldFn] w fun e w'=>e = .returned (.tuple #[tyV k m,.int .i64 0]) ∧ Below w.heap.size w w':=by
 unfold fieldFn tyV
 have hd : decide (255 < (s.size : Int)) = false:=by simp;omega
 have he : s.extract s.size s.size = ⟨#[]⟩:=ba_ext (by rw [ext_drop,List.drop_eq_nil_of_le (Nat.le_of_eq (bl_len s))])
 have HF0 : ∀ (pb mb : Nat) (W : World),Rd W pb mb s → Calls Tryz.prog 149 #[.pointer (some ⟨pb,0,none⟩)] W (FieldOk pb mb k m ⟨#[]⟩ W):=by
  intro pb mb W hW
  have:=field_rd pb mb _ s W hW rfl hs
  unfold FieldPost at this
  rw [h] at this
  rw [← he]
  exact this
 unfold FieldOk tyV at HF0
 have HF:=hid HF0
 have hmf:=A.mkF
 clear HF0 h he
 go_enter_defers Tryz.func148,Tryz.ntmps148
 go_wp2_with (first
  | (go_at_call 172;refine (kinds_any _).mono ?_;rintro e w1 ⟨rfl,hk1,hb1,hz1⟩;simp only [World.size_alloc] at hk1 hb1 hz1;have HK1:=hid hk1;have HB1:=hid hb1;clear hk1 hb1)
  | (go_at_call 149;refine (HF.out w1.heap.size (w.heap.size + 1 + 1) _ (rd_new s HK1.out hz1)).mono ?_;rintro e w2 ⟨rfl,hg2,hr2⟩;have HBx:=hid (boxes w w1 HB1.out (.cells #[.string s,.map (some (w.heap.size + 1 + 1))] 209));have hz2:=HBx.out.2.2.2;have HRB:=hid (HBx.out.1.keep hg2 (by omega));have HEB:=hid (HBx.out.2.1.grown hg2 (by simp;omega));have HW2:=hid (Below.grown HBx.out.2.2.1 hg2 (by simp;omega) (fun j e=>by have:=Option.some.inj e;omega));obtain ⟨b0,b1,f0,f1⟩:=HRB.out.facts;obtain ⟨e0,e1⟩:=HEB.out.facts;have cl2:=hr2.left;have hs2:=hr2.sz;have hs3:=HEB.out.sz;have hs4:=HRB.out.sz;clear hg2 hr2))
 refine leaves_cons (f:=171) (args:=#[.pointer (some ⟨w.heap.size + 1,0,none⟩)]) (by simp) (by simp [go_sem]) ?_
 refine (catchT_idle ⟨w.heap.size + 1,0,none⟩ _).mono ?_
 rintro e u' w'' ⟨rfl,rfl,rfl⟩
 refine ⟨.tuple #[.agg #[.int .i64 k,.string ⟨m.toArray⟩],.int .i64 0],by simp [results,Tryz.results148,go_sem,b0,b1,e0,hs3,hs4],rfl,?_⟩
 have HW:=HW2.out
 exact BLw
set_option maxHeartbeats 400000 in
theorem wholeT_left (s : ByteArray) (k : Int) (m : List UInt8) (n : Nat) (w : World) (hs : s.size ≤ 255) (h : Ds.rd (Ds.bl s) = some (k,m,n)) (hn : n < s.size) :
  Calls Tryz.prog 148 #[.string s,fieldFn] w fun e w'=>e = .returned (.tuple #[tyV 0 [],.int .i64 20]) ∧ Below w.heap.size w w':=by
 unfold fieldFn tyV
 have hd : decide (255 < (s.size : Int)) = false:=by simp;omega
 obtain ⟨q,hq⟩ : ∃ q,q = s.extract n s.size:=⟨_,rfl⟩
 have HF0 : ∀ (pb mb : Nat) (W : World),Rd W pb mb s → Calls Tryz.prog 149 #[.pointer (some ⟨pb,0,none⟩)] W (FieldOk pb mb k m q W):=by
  intro pb mb W hW
  have:=field_rd pb mb _ s W hW rfl hs
  unfold FieldPost at this
  rw [h] at this
  rw [hq]
  exact this
 have hq0 : (q.toList.isEmpty) = false:=by
  rw [ByteArray.toList_eq]
  have : (Ds.bl q).length ≠ 0:=by rw [hq,ext_drop,List.length_drop,bl_len];omega
  cases hb : q.data.toList with
  | nil=>exact absurd (by show q.data.toList.length = 0;rw [hb];rfl) this
  | cons=>rfl
 unfold FieldOk tyV at HF0
 have HF:=hid HF0
 have hmf:=A.mkF
 clear HF0 h hq
 go_enter_defers Tryz.func148,Tryz.ntmps148
 go_wp2_with (first
  | (go_at_call 172;refine (kinds_any _).mono ?_;rintro e w1 ⟨rfl,hk1,hb1,hz1⟩;simp only [World.size_alloc] at hk1 hb1 hz1;have HK1:=hid hk1;have HB1:=hid hb1;clear hk1 hb1)
  | (go_at_call 149;refine (HF.out w1.heap.size (w.heap.size + 1 + 1) _ (rd_new s HK1.out hz1)).mono ?_;rintro e w2 ⟨rfl,hg2,hr2⟩;have HBx:=hid (boxes w w1 HB1.out (.cells #[.string s,.map (some (w.heap.size + 1 + 1))] 209));have hz2:=HBx.out.2.2.2;have HRB:=hid (HBx.out.1.keep hg2 (by omega));have HEB:=hid (HBx.out.2.1.grown hg2 (by simp;omega));have HW2:=hid (Below.grown HBx.out.2.2.1 hg2 (by simp;omega) (fun j e=>by have:=Option.some.inj e;omega));obtain ⟨b0,b1,f0,f1⟩:=HRB.out.facts;obtain ⟨e0,e1⟩:=HEB.out.facts;have cl2:=hr2.left;have hs2:=hr2.sz;have hs3:=HEB.out.sz;have hs4:=HRB.out.sz;clear hg2 hr2))
 refine leaves_cons (f:=171) (args:=#[.pointer (some ⟨w.heap.size + 1,0,none⟩)]) (by simp) (by simp [go_sem]) ?_
 refine (catchT_panicking ⟨w.heap.size + 1,0,none⟩ (.int .i64 0) [] _ ?_ ?_).mono ?_
 ·simp [go_sem,e0,hs3]
 ·simp [go_sem,e1,hs3]
 rintro e u' w'' ⟨rfl,rfl,rfl⟩
 refine ⟨.tuple #[.agg #[.int .i64 0,.string ⟨#[]⟩],.int .i64 20],by simp [results,Tryz.results148,go_sem,b0,b1,e0,hs3,hs4],rfl,?_⟩
 have HW:=HW2.out
 exact BLw
set_option maxHeartbeats 400000 in
theorem wholeT_bad (s : ByteArray) (w : World) (hs : s.size ≤ 255) (h : Ds.rd (Ds.bl s) = none) :
  Calls Tryz.prog 148 #[.string s,fieldFn] w fun e w'=>e = .returned (.tuple #[tyV 0 [],.int .i64 20]) ∧ Below w.heap.size w w':=by
 unfold fieldFn tyV
 have hd : decide (255 < (s.size : Int)) = false:=by simp;omega
 have HF0 : ∀ (pb mb : Nat) (W : World),Rd W pb mb s → Calls Tryz.prog 149 #[.pointer (some ⟨pb,0,none⟩)] W (Bad pb W):=by
  intro pb mb W hW
  have:=field_rd pb mb _ s W hW rfl hs
  unfold FieldPost at this
  rw [h] at this
  exact this
 unfold Bad bad at HF0
 have HF:=hid HF0
 have hmf:=A.mkF
 clear HF0 h
 go_enter_defers Tryz.func148,Tryz.ntmps148
 go_wp2_with (first
  | (go_at_call 172;refine (kinds_any _).mono ?_;rintro e w1 ⟨rfl,hk1,hb1,hz1⟩;simp only [World.size_alloc] at hk1 hb1 hz1;have HK1:=hid hk1;have HB1:=hid hb1;clear hk1 hb1)
  | (go_at_call 149;refine (HF.out w1.heap.size (w.heap.size + 1 + 1) _ (rd_new s HK1.out hz1)).mono ?_;rintro e w2 ⟨rfl,hg2⟩;have HBx:=hid (boxes w w1 HB1.out (.cells #[.string s,.map (some (w.heap.size + 1 + 1))] 209));have hz2:=HBx.out.2.2.2;have HRB:=hid (HBx.out.1.keep hg2 (by omega));have HEB:=hid (HBx.out.2.1.grown hg2 (by simp;omega));have HW2:=hid (Below.grown HBx.out.2.2.1 hg2 (by simp;omega) (fun j e=>by have:=Option.some.inj e;omega));obtain ⟨b0,b1,f0,f1⟩:=HRB.out.facts;obtain ⟨e0,e1⟩:=HEB.out.facts;have hs3:=HEB.out.sz;have hs4:=HRB.out.sz;clear hg2))
 refine leaves_cons (f:=171) (args:=#[.pointer (some ⟨w.heap.size + 1,0,none⟩)]) (by simp) (by simp [go_sem]) ?_
 refine (catchT_panicking ⟨w.heap.size + 1,0,none⟩ (.int .i64 0) [] _ ?_ ?_).mono ?_
 ·exact e0
 ·exact e1
 rintro e u' w'' ⟨rfl,rfl,rfl⟩
 refine ⟨.tuple #[.agg #[.int .i64 0,.string ⟨#[]⟩],.int .i64 20],by simp [results,Tryz.results148,go_sem,b0,b1,e0],rfl,?_⟩
 have HW:=HW2.out
 exact BLw
def fdOut (l : List UInt8) : Ds.Ty × Int:=if 255 < l.length then ((0,[]),3) else match Ds.rd l with
 | none=>((0,[]),20)
 | some (k,m,n)=>if n = l.length then ((k,m),0) else ((0,[]),20)
theorem wholeT_any (s : ByteArray) (w : World) :
  Calls Tryz.prog 148 #[.string s,fieldFn] w fun e w'=>e = .returned (.tuple #[tyV (fdOut (Ds.bl s)).1.1 (fdOut (Ds.bl s)).1.2,.int .i64 (fdOut (Ds.bl s)).2]) ∧ Below w.heap.size w w':=by
 unfold fdOut
 rw [bl_len]
 by_cases hs : 255 < s.size
 ·rw [if_pos hs];exact wholeT_long s w hs
 ·rw [if_neg hs]
  cases h : Ds.rd (Ds.bl s) with
  | none=>exact wholeT_bad s w (by omega) h
  | some y =>
   obtain ⟨k,m,n⟩:=y
   dsimp only
   have hl:=Ds.rd_len h
   rw [bl_len] at hl
   by_cases hn : n = s.size
   ·rw [if_pos hn];subst hn;exact wholeT_ok s k m w (by omega) h
   ·rw [if_neg hn];exact wholeT_left s k m n w (by omega) h (by omega)
set_option maxHeartbeats 400000 in
theorem field_any (s : ByteArray) (w : World) :
  Calls Tryz.prog 106 #[.string s] w fun e w'=>e = .returned (.tuple #[tyV (fdOut (Ds.bl s)).1.1 (fdOut (Ds.bl s)).1.2,.int .i64 (fdOut (Ds.bl s)).2]) ∧ Below w.heap.size w w':=by
 have HW:=hid (fun W=>wholeT_any s W)
 obtain ⟨k,hk⟩ : ∃ k,k = (fdOut (Ds.bl s)).1.1:=⟨_,rfl⟩
 obtain ⟨m,hm⟩ : ∃ m,m = (fdOut (Ds.bl s)).1.2:=⟨_,rfl⟩
 obtain ⟨er,he⟩ : ∃ er,er = (fdOut (Ds.bl s)).2:=⟨_,rfl⟩
 rw [← hk,← hm,← he] at HW ⊢
 unfold fieldFn tyV at HW
 unfold tyV
 clear hk hm he
 go_enter Tryz.func106,Tryz.ntmps106
 go_wp2_with (go_at_call 148;refine (HW.out _).mono ?_;rintro e w1 ⟨rfl,hb1⟩;obtain ⟨hcc,hff⟩:=bcell hb1;have hz:=hb1.size;simp only [World.size_alloc] at hz;have hz1 : w.heap.size < w1.heap.size:=(by omega))
 have hb':=belows (B:=w.heap.size) (a:=w) BLw hb1 (by simp)
 exact bodyPost_ret (v:=.tuple #[.agg #[.int .i64 k,.string ⟨m.toArray⟩],.int .i64 er]) (by simp [results,Tryz.results106,go_sem,hcc]) rfl ⟨rfl,BLw⟩
end Go.Proofs.YtnojgiflgmnjlaaGreatDoor.L2
namespace Go.Proofs.YtnojgiflgmnjlaaGreatDoor.L2
open Go.RowKit
theorem catchS_panicking (p : Addr) (x : Value) (older : List PanicEntry) (w : World) (hc : w.cell? p = some x) (hz : w.frozen? p = false) :
  CallsD Tryz.prog 176 #[.pointer (some p)] (.panicking ({ v:=.iface 27 (.int .i64 20),recovered:=false } :: older)) w fun e u' w' =>
   e = .returned (.tuple #[]) ∧ u' = .panicking ({ v:=.iface 27 (.int .i64 20),recovered:=true } :: older) ∧ w' = w.setCell p (.int .i64 20):=by
 refine callsD_of_wpS Tryz.func176 rfl fun c₀ cs hu=>?_
 apply wpS_seq
 apply wpS_region
 simp [wpOpsS,go_sem,recoverD,hu,Tryz.ntmps176,Exit.thenS]
 have q1:=A.eqBad
 refine wpS_of_wp ?_
 go_wp2
 simp [bodyPostS,results,Tryz.results176]
theorem catchS_idle (p : Addr) (w : World) :
  CallsD Tryz.prog 176 #[.pointer (some p)] .returning w fun e u' w'=>e = .returned (.tuple #[]) ∧ u' = .returning ∧ w = w':=by
 refine callsD_of_wpS Tryz.func176 rfl fun c₀ cs hu=>?_
 apply wpS_seq
 apply wpS_region
 simp [wpOpsS,go_sem,recoverD,hu,Tryz.ntmps176,Exit.thenS]
 have q2:=A.eqNone
 have q3:=A.neNone
 refine wpS_of_wp ?_
 go_wp2
 cases c₀
 simp_all [bodyPostS,results,Tryz.results176]
theorem MB.below {w w' : World} {B n : Nat} {v : Value} {k : Int} {m : ByteArray} (h : MB w B v k m) (hb : Below n w w') (hn : B < n) : MB w' B v k m:=(hb.block B hn).trans h
theorem boxesS (w w1 : World) (h : Below (w.heap.size + 1 + 1) ((w.alloc (.cells #[.slice none 0 0,.int .i64 0,.string ⟨#[]⟩] 181)).alloc (.cells #[.int .i64 0] 27)) w1) (o : Obj) :
  MB (w1.alloc o) w.heap.size (.slice none 0 0) 0 ⟨#[]⟩ ∧ EB (w1.alloc o) (w.heap.size + 1) 0 ∧ Below w.heap.size w (w1.alloc o) ∧ w.heap.size + 2 ≤ w1.heap.size:=by
 have hz:=h.size
 simp only [World.size_alloc] at hz
 have e1:=EB.new (w.alloc (.cells #[.slice none 0 0,.int .i64 0,.string ⟨#[]⟩] 181)) 0
 rw [World.size_alloc] at e1
 have ha:=(Below.refl w1.heap.size w1).alloc (Nat.le_refl _) o
 refine ⟨?_,?_,?_,by omega⟩
 ·exact (((show MB _ _ _ _ _ from World.alloc_heap_new w _).below (n:=w.heap.size + 1) ((Below.refl _ _).alloc (by simp) _) (by omega)).below h (by omega)).below ha (by omega)
 ·exact (e1.below h (by omega)).below ha (by omega)
 ·exact (belows (b:=(w.alloc (.cells #[.slice none 0 0,.int .i64 0,.string ⟨#[]⟩] 181)).alloc (.cells #[.int .i64 0] 27)) BLw (h.mono (by simp only [World.size_alloc];omega)) (by simp only [World.size_alloc];omega)).alloc (by omega) _
def methodFn : Value:=.func (.func 151) #[] #[]
set_option maxHeartbeats 400000 in
theorem wholeS_long (s : ByteArray) (w : World) (hs : 255 < s.size) :
  Calls Tryz.prog 150 #[.string s,methodFn] w fun e w'=>e = .returned (.tuple #[.agg #[.slice none 0 0,.int .i64 0,.string ⟨#[]⟩],.int .i64 3]) ∧ Below w.heap.size w w':=by
 unfold methodFn
 have hd : decide (255 < (s.size : Int)) = true:=by simp;omega
 go_enter_defers Tryz.func150,Tryz.ntmps150
 go_wp2
 exact ⟨_,by simp [results,Tryz.results150,go_sem],rfl,BLw⟩
set_option maxHeartbeats 400000 in
theorem wholeS_ok (s : ByteArray) (xs : List Ds.Ty) (k : Int) (m : List UInt8) (w : World) (hs : s.size ≤ 255) (h : Ds.md (Ds.bl s) = some (xs,(k,m),[])) :
  Calls Tryz.prog 150 #[.string s,methodFn] w fun e w'=>∃ v,e = .returned (.tuple #[.agg #[v,.int .i64 k,.string ⟨m.toArray⟩],.int .i64 0]) ∧ OwnT w' w.heap.size v xs ∧ Below w.heap.size w w':=by
 unfold methodFn
 have hd : decide (255 < (s.size : Int)) = false:=by simp;omega
 have HF0 : ∀ (pb mb : Nat) (W : World),Rd W pb mb s → Calls Tryz.prog 151 #[.pointer (some ⟨pb,0,none⟩)] W fun e w'=>∃ sa sc,e = .returned (.agg #[.slice sa xs.length sc,.int .i64 k,.string ⟨m.toArray⟩]) ∧ OwnT w' W.heap.size (.slice sa xs.length sc) xs ∧ Step pb mb ⟨#[]⟩ W w':=by
  intro pb mb W hW
  have:=method_rd pb mb s W hW hs
  unfold MethodPost at this
  rw [h] at this
  refine this.mono ?_
  rintro e w' ⟨v,q,rfl,ho,hq,hst⟩
  obtain ⟨sa,sc,rfl⟩:=own_form ho
  have hq2 : q = ⟨#[]⟩:=ba_ext hq
  rw [hq2] at hst
  exact ⟨sa,sc,rfl,ho,hst⟩
 have HF:=hid HF0
 have hmf:=A.mkF
 clear HF0 h
 go_enter_defers Tryz.func150,Tryz.ntmps150
 go_wp2_with (first
  | (go_at_call 172;refine (kinds_any _).mono ?_;rintro e w1 ⟨rfl,hk1,hb1,hz1⟩;simp only [World.size_alloc] at hk1 hb1 hz1;have HK1:=hid hk1;have HB1:=hid hb1;clear hk1 hb1)
  | (go_at_call 151;refine (HF.out w1.heap.size (w.heap.size + 1 + 1) _ (rd_new s HK1.out hz1)).mono ?_;rintro e w2 ⟨sa,sc,rfl,ho2,hg2,hr2⟩;have HO2:=hid ho2;have HBx:=hid (boxesS w w1 HB1.out (.cells #[.string s,.map (some (w.heap.size + 1 + 1))] 209));have hz2:=HBx.out.2.2.2;have HRB:=hid (HBx.out.1.grown hg2 (by simp;omega));have HEB:=hid (HBx.out.2.1.grown hg2 (by simp;omega));have HW2:=hid (Below.grown HBx.out.2.2.1 hg2 (by simp;omega) (fun j e=>by have:=Option.some.inj e;omega));obtain ⟨b0,b1,b2,f0,f1,f2⟩:=HRB.out.facts;obtain ⟨e0,e1⟩:=HEB.out.facts;have cl2:=hr2.left;have hs2:=hr2.sz;have hs3:=HEB.out.sz;have hs4:=HRB.out.sz;clear hg2 hr2 ho2))
 refine leaves_cons (f:=176) (args:=#[.pointer (some ⟨w.heap.size + 1,0,none⟩)]) (by simp) (by simp [go_sem]) ?_
 refine (catchS_idle ⟨w.heap.size + 1,0,none⟩ _).mono ?_
 rintro e u' w'' ⟨rfl,rfl,rfl⟩
 refine ⟨.tuple #[.agg #[.slice sa xs.length sc,.int .i64 k,.string ⟨m.toArray⟩],.int .i64 0],by simp [results,Tryz.results150,go_sem,b0,b1,b2,e0,hs3,hs4],_,rfl,?_,?_⟩
 ·have ho:=HO2.out
  simp only [World.size_alloc] at ho
  have h1:=Kit.owns_grown ho (set_grown w2 w.heap.size 0 (.slice sa xs.length sc)) (by omega)
  have h2:=Kit.owns_grown h1 (set_grown _ w.heap.size 1 (.int .i64 k)) (by omega)
  have h3:=Kit.owns_grown h2 (set_grown _ w.heap.size 2 (.string ⟨m.toArray⟩)) (by omega)
  have h4:=Kit.owns_grown h3 (set_grown _ (w.heap.size + 1) 0 (.int .i64 0)) (by omega)
  exact own_mono (Kit.owns_below h4 ((Below.refl _ _).alloc (Nat.le_refl _) _) (Nat.le_refl _)) (by omega)
 ·have HW:=HW2.out
  exact BLw
set_option maxHeartbeats 400000 in
theorem wholeS_left (s : ByteArray) (xs : List Ds.Ty) (k : Int) (m : List UInt8) (c : UInt8) (l : List UInt8) (w : World) (hs : s.size ≤ 255) (h : Ds.md (Ds.bl s) = some (xs,(k,m),c :: l)) :
  Calls Tryz.prog 150 #[.string s,methodFn] w fun e w'=>e = .returned (.tuple #[.agg #[.slice none 0 0,.int .i64 0,.string ⟨#[]⟩],.int .i64 20]) ∧ Below w.heap.size w w':=by
 unfold methodFn
 have hd : decide (255 < (s.size : Int)) = false:=by simp;omega
 have HF0 : ∀ (pb mb : Nat) (W : World),Rd W pb mb s → Calls Tryz.prog 151 #[.pointer (some ⟨pb,0,none⟩)] W fun e w'=>∃ sa sc q,e = .returned (.agg #[.slice sa xs.length sc,.int .i64 k,.string ⟨m.toArray⟩]) ∧ (q.toList.isEmpty) = false ∧ Step pb mb q W w':=by
  intro pb mb W hW
  have:=method_rd pb mb s W hW hs
  unfold MethodPost at this
  rw [h] at this
  refine this.mono ?_
  rintro e w' ⟨v,q,rfl,ho,hq,hst⟩
  obtain ⟨sa,sc,rfl⟩:=own_form ho
  refine ⟨sa,sc,q,rfl,?_,hst⟩
  rw [ByteArray.toList_eq]
  have hq' : q.data.toList = c :: l:=hq
  rw [hq'];rfl
 have HF:=hid HF0
 have hmf:=A.mkF
 clear HF0 h
 go_enter_defers Tryz.func150,Tryz.ntmps150
 go_wp2_with (first
  | (go_at_call 172;refine (kinds_any _).mono ?_;rintro e w1 ⟨rfl,hk1,hb1,hz1⟩;simp only [World.size_alloc] at hk1 hb1 hz1;have HK1:=hid hk1;have HB1:=hid hb1;clear hk1 hb1)
  | (go_at_call 151;refine (HF.out w1.heap.size (w.heap.size + 1 + 1) _ (rd_new s HK1.out hz1)).mono ?_;rintro e w2 ⟨sa,sc,q,rfl,hq0,hg2,hr2⟩;have HBx:=hid (boxesS w w1 HB1.out (.cells #[.string s,.map (some (w.heap.size + 1 + 1))] 209));have hz2:=HBx.out.2.2.2;have HRB:=hid (HBx.out.1.grown hg2 (by simp;omega));have HEB:=hid (HBx.out.2.1.grown hg2 (by simp;omega));have HW2:=hid (Below.grown HBx.out.2.2.1 hg2 (by simp;omega) (fun j e=>by have:=Option.some.inj e;omega));obtain ⟨b0,b1,b2,f0,f1,f2⟩:=HRB.out.facts;obtain ⟨e0,e1⟩:=HEB.out.facts;have cl2:=hr2.left;have hs2:=hr2.sz;have hs3:=HEB.out.sz;have hs4:=HRB.out.sz;clear hg2 hr2))
 refine leaves_cons (f:=176) (args:=#[.pointer (some ⟨w.heap.size + 1,0,none⟩)]) (by simp) (by simp [go_sem]) ?_
 refine (catchS_panicking ⟨w.heap.size + 1,0,none⟩ (.int .i64 0) [] _ ?_ ?_).mono ?_
 ·simp [go_sem,e0,hs3]
 ·simp [go_sem,e1,hs3]
 rintro e u' w'' ⟨rfl,rfl,rfl⟩
 refine ⟨.tuple #[.agg #[.slice none 0 0,.int .i64 0,.string ⟨#[]⟩],.int .i64 20],by simp [results,Tryz.results150,go_sem,b0,b1,b2,e0,hs3,hs4],rfl,?_⟩
 have HW:=HW2.out
 exact BLw
set_option maxHeartbeats 400000 in
theorem wholeS_bad (s : ByteArray) (w : World) (hs : s.size ≤ 255) (h : Ds.md (Ds.bl s) = none) :
  Calls Tryz.prog 150 #[.string s,methodFn] w fun e w'=>e = .returned (.tuple #[.agg #[.slice none 0 0,.int .i64 0,.string ⟨#[]⟩],.int .i64 20]) ∧ Below w.heap.size w w':=by
 unfold methodFn
 have hd : decide (255 < (s.size : Int)) = false:=by simp;omega
 have HF0 : ∀ (pb mb : Nat) (W : World),Rd W pb mb s → Calls Tryz.prog 151 #[.pointer (some ⟨pb,0,none⟩)] W (Bad pb W):=by
  intro pb mb W hW
  have:=method_rd pb mb s W hW hs
  unfold MethodPost at this
  rw [h] at this
  exact this
 unfold Bad bad at HF0
 have HF:=hid HF0
 have hmf:=A.mkF
 clear HF0 h
 go_enter_defers Tryz.func150,Tryz.ntmps150
 go_wp2_with (first
  | (go_at_call 172;refine (kinds_any _).mono ?_;rintro e w1 ⟨rfl,hk1,hb1,hz1⟩;simp only [World.size_alloc] at hk1 hb1 hz1;have HK1:=hid hk1;have HB1:=hid hb1;clear hk1 hb1)
  | (go_at_call 151;refine (HF.out w1.heap.size (w.heap.size + 1 + 1) _ (rd_new s HK1.out hz1)).mono ?_;rintro e w2 ⟨rfl,hg2⟩;have HBx:=hid (boxesS w w1 HB1.out (.cells #[.string s,.map (some (w.heap.size + 1 + 1))] 209));have hz2:=HBx.out.2.2.2;have HRB:=hid (HBx.out.1.grown hg2 (by simp;omega));have HEB:=hid (HBx.out.2.1.grown hg2 (by simp;omega));have HW2:=hid (Below.grown HBx.out.2.2.1 hg2 (by simp;omega) (fun j e=>by have:=Option.some.inj e;omega));obtain ⟨b0,b1,b2,f0,f1,f2⟩:=HRB.out.facts;obtain ⟨e0,e1⟩:=HEB.out.facts;have hs3:=HEB.out.sz;have hs4:=HRB.out.sz;clear hg2))
 refine leaves_cons (f:=176) (args:=#[.pointer (some ⟨w.heap.size + 1,0,none⟩)]) (by simp) (by simp [go_sem]) ?_
 refine (catchS_panicking ⟨w.heap.size + 1,0,none⟩ (.int .i64 0) [] _ ?_ ?_).mono ?_
 ·exact e0
 ·exact e1
 rintro e u' w'' ⟨rfl,rfl,rfl⟩
 refine ⟨.tuple #[.agg #[.slice none 0 0,.int .i64 0,.string ⟨#[]⟩],.int .i64 20],by simp [results,Tryz.results150,go_sem,b0,b1,b2,e0],rfl,?_⟩
 have HW:=HW2.out
 exact BLw
def mdOut (l : List UInt8) : List Ds.Ty × Ds.Ty × Int:=if 255 < l.length then ([],(0,[]),3) else match Ds.md l with
 | some (xs,y,[])=>(xs,y,0)
 | _=>([],(0,[]),20)
def MOut (s : ByteArray) (w : World) (v : Value) (w' : World) : Prop:=OwnT w' w.heap.size v (mdOut (Ds.bl s)).1 ∧ Below w.heap.size w w'
theorem wholeS_any (s : ByteArray) (w : World) :
  Calls Tryz.prog 150 #[.string s,methodFn] w fun e w'=>∃ v,e = .returned (.tuple #[.agg #[v,.int .i64 (mdOut (Ds.bl s)).2.1.1,.string ⟨(mdOut (Ds.bl s)).2.1.2.toArray⟩],.int .i64 (mdOut (Ds.bl s)).2.2]) ∧ MOut s w v w':=by
 unfold MOut mdOut
 rw [bl_len]
 by_cases hs : 255 < s.size
 ·rw [if_pos hs];exact (wholeS_long s w hs).mono fun e w' ⟨he,hb⟩=>⟨_,he,nilT _ _,hb⟩
 ·rw [if_neg hs]
  cases h : Ds.md (Ds.bl s) with
  | none=>exact (wholeS_bad s w (by omega) h).mono fun e w' ⟨he,hb⟩=>⟨_,he,nilT _ _,hb⟩
  | some y =>
   obtain ⟨xs,⟨k,m⟩,l⟩:=y
   cases l with
   | nil=>exact wholeS_ok s xs k m w (by omega) h
   | cons c l=>exact (wholeS_left s xs k m c l w (by omega) h).mono fun e w' ⟨he,hb⟩=>⟨_,he,nilT _ _,hb⟩
end Go.Proofs.YtnojgiflgmnjlaaGreatDoor.L2
namespace Go.Proofs.YtnojgiflgmnjlaaGreatDoor.L2
open Go.RowKit
set_option maxHeartbeats 1000000 in
theorem method_any (s : ByteArray) (w : World) :
  Calls Tryz.prog 109 #[.string s] w fun e w'=>∃ v,e = .returned (.tuple #[v,tyV (mdOut (Ds.bl s)).2.1.1 (mdOut (Ds.bl s)).2.1.2,.int .i64 (mdOut (Ds.bl s)).2.2]) ∧ MOut s w v w':=by
 have HW:=hid (fun W=>wholeS_any s W)
 obtain ⟨k,hk⟩ : ∃ k,k = (mdOut (Ds.bl s)).2.1.1:=⟨_,rfl⟩
 obtain ⟨m,hm⟩ : ∃ m,m = (mdOut (Ds.bl s)).2.1.2:=⟨_,rfl⟩
 obtain ⟨er,he⟩ : ∃ er,er = (mdOut (Ds.bl s)).2.2:=⟨_,rfl⟩
 rw [← hk,← hm,← he] at HW ⊢
 unfold methodFn at HW
 unfold tyV
 clear hk hm he
 go_enter Tryz.func109,Tryz.ntmps109
 go_wp2_with (go_at_call 150;refine (HW.out _).mono ?_;rintro e w1 ⟨v,rfl,hm1⟩;obtain ⟨sa,sc,rfl⟩:=own_form hm1.1;have HM:=hid hm1;have hb1:=hm1.2;obtain ⟨hcc,hff⟩:=bcell hb1;have hz:=hb1.size;simp only [World.size_alloc] at hz;have hz1 : w.heap.size < w1.heap.size:=(by omega);clear hm1)
 have hR1 : RB w1 w.heap.size:=(RB.new w).below hb1 (by simp)
 obtain ⟨n,hn⟩ : ∃ n,n = (mdOut (Ds.bl s)).1.length:=⟨_,rfl⟩
 rw [← hn]
 have hMB : MB (w1.alloc (.cells #[.slice sa n sc,.int .i64 k,.string ⟨m.toArray⟩] 181)) w1.heap.size (.slice sa n sc) k ⟨m.toArray⟩:=World.alloc_heap_new w1 _
 have hba : Below w1.heap.size w1 (w1.alloc (.cells #[.slice sa n sc,.int .i64 k,.string ⟨m.toArray⟩] 181)):=(Below.refl _ _).alloc (Nat.le_refl _) _
 have hRB:=hR1.below hba hz1
 obtain ⟨W,hW⟩ : ∃ W,W = w1.alloc (.cells #[.slice sa n sc,.int .i64 k,.string ⟨m.toArray⟩] 181):=⟨_,rfl⟩
 rw [← hW] at hMB hRB hba ⊢
 obtain ⟨c0,c1,c2,-,-,-⟩:=hMB.facts
 obtain ⟨b0,b1,f0,f1⟩:=hRB.facts
 have HBa:=hid hba
 have HN:=hid hn
 have hbx:=hid (belows (B:=w.heap.size) (a:=w) BLw hb1 (by simp))
 have hne : ¬ w.heap.size = w1.heap.size:=by omega
 clear hW hba hn hR1 hMB hRB hcc hff hb1
 go_region
 go_wp2
 refine bodyPost_ret (v:=.tuple #[.slice sa n sc,.agg #[.int .i64 k,.string ⟨m.toArray⟩],.int .i64 er]) (by simp [results,Tryz.results109,go_sem,b0,b1]) rfl ⟨_,rfl,?_,?_⟩
 ·have ho:=HM.out.1
  simp only [World.size_alloc] at ho
  rw [← HN.out] at ho
  have h0:=Kit.owns_below ho HBa.out (Nat.le_refl _)
  have h1:=Kit.owns_grown h0 (set_grown W w.heap.size 0 (.int .i64 k)) (by omega)
  have h2:=Kit.owns_grown h1 (set_grown _ w.heap.size 1 (.string ⟨m.toArray⟩)) (by omega)
  exact own_mono (Kit.owns_below h2 ((Below.refl _ _).drew) (Nat.le_refl _)) (by omega)
 ·have hx:=hbx.out
  have hy:=belows hx HBa.out (by omega)
  exact BLw
end Go.Proofs.YtnojgiflgmnjlaaGreatDoor.L2
namespace Go.Proofs.YtnojgiflgmnjlaaGreatDoor.L2
open Go.RowKit
theorem tyC_len (y : Ds.Ty) : (tyC y).length = 2:=rfl
theorem ty_at {w : World} {v : Value} {l : List Ds.Ty} (h : Kit.IsS 2 w v l.length (l.flatMap tyC)) {k : Nat} {x : Ds.Ty} (hx : l[k]? = some x) :
  ∃ b o cap,v = .slice (some ⟨b,o,none⟩) l.length cap ∧ b < w.heap.size ∧ w.cell? ⟨b,o + k * 2,none⟩ = some (.int .i64 x.1) ∧ w.cell? ⟨b,o + k * 2 + 1,none⟩ = some (.string ⟨x.2.toArray⟩):=by
 have hk : k < l.length:=by rw [List.getElem?_eq_some_iff] at hx;exact hx.1
 obtain ⟨b,o,cap,hv,-,hlt,hc⟩:=h.some (by omega)
 have f:=fun j hj=>Kit.flat_at tyC_len hx j hj
 refine ⟨b,o,cap,hv,hlt,?_,?_⟩
 ·exact hc (k * 2 + 0) _ (f 0 (by omega))
 ·exact hc (k * 2 + 1) _ (f 1 (by omega))
def longs (l : List Ds.Ty) : Nat:=(l.filter fun y=>y.1 == 2).length
theorem longs_le (l : List Ds.Ty) : longs l ≤ l.length:=List.length_filter_le _ _
theorem longs_step {l : List Ds.Ty} {k : Nat} {x : Ds.Ty} (h : l[k]? = some x) : longs (l.take (k + 1)) = longs (l.take k) + if x.1 == 2 then 1 else 0:=by
 unfold longs
 rw [List.take_add_one,h,List.filter_append,List.length_append]
 congr 1
 simp only [Option.toList_some,List.filter_cons,List.filter_nil]
 split <;> rfl
def slotsOf (l : List Ds.Ty) : Int:=l.length + longs l
set_option maxHeartbeats 400000 in
theorem slots_any (l : List Ds.Ty) (v : Value) (w : World) (hv : Kit.IsS 2 w v l.length (l.flatMap tyC)) :
  Calls Tryz.prog 152 #[v] w fun e w'=>e = .returned (.int .i64 (slotsOf l)) ∧ Below w.heap.size w w':=by
 have HV:=hid hv
 obtain ⟨a,cap,hv2⟩:=hv.len
 subst hv2
 have hlen:=hv.2.1
 clear hv
 go_enter Tryz.func152,Tryz.ntmps152
 go_wp2
 go_loopw [3,10] (fun n i wr=>∃ k : Nat,k ≤ l.length ∧ i = .int .i64 k ∧ n = .int .i64 ((l.length : Int) + longs (l.take k)) ∧ Below w.heap.size w wr) (fun _ i _=>l.length - (intOf i).toNat)
 case atStart=>exact ⟨0,by omega,rfl,rfl,BLw⟩
 case round =>
  obtain ⟨k,hk,rfl,rfl,hbl⟩:=hrel
  have hbz:=hbl.size
  by_cases hlt : k < l.length
  ·obtain ⟨x,hx⟩ : ∃ x,l[k]? = some x:=⟨l[k],List.getElem?_eq_getElem hlt⟩
   obtain ⟨b,o,cap',hv,hb,c0,c1⟩:=ty_at (HV.out.below hbl (Nat.le_refl _)) hx
   obtain ⟨rfl,-,rfl⟩:=Value.slice.inj hv
   have HStep:=hid (longs_step hx)
   have hlg:=longs_le (l.take k)
   rw [List.length_take] at hlg
   obtain ⟨c,hc⟩ : ∃ c,c = longs (l.take k):=⟨_,rfl⟩
   rw [← hc] at hlg HStep ⊢
   obtain ⟨xk,xm⟩:=x
   dsimp only at c0 c1 HStep
   have hlt' : (k : Int) < l.length:=by omega
   clear hx hv hc
   by_cases h2 : xk = 2
   ·subst h2
    have HS:=hid (show longs (l.take (k + 1)) = c + 1 from HStep.out)
    clear HStep
    go_wp2
    go_roundw
    case rel=>exact ⟨k + 1,by omega,by go_num,by rw [HS.out];go_num,BLw⟩
    case measure=>simp [intOf];omega
   ·have h2' : (xk == 2) = false:=by simpa using h2
    have HS0:=HStep.out
    rw [h2',if_neg (by simp)] at HS0
    have HS:=hid HS0
    clear HS0
    clear HStep h2
    go_wp2
    go_roundw
    case rel=>exact ⟨k + 1,by omega,by go_num,by rw [HS.out];go_num,BLw⟩
    case measure=>simp [intOf];omega
  ·obtain rfl : k = l.length:=by omega
   rw [List.take_length]
   have HS:=hid (show slotsOf l = (l.length : Int) + longs l from rfl)
   go_wp2
   go_ret
   exact ⟨by rw [HS.out];rfl,BLw⟩
end Go.Proofs.YtnojgiflgmnjlaaGreatDoor.L2
namespace Go.Proofs.YtnojgiflgmnjlaaGreatDoor.L2
open Go.RowKit
def lD : DataW Unit:=((DataW.map []).put (.int .i64 1) (.lit (.int .u8 73))).put (.int .i64 2) (.lit (.int .u8 74))
def LMap (w : World) (mb : Nat) : Prop:=w.ownsMap Tryz.prog 3 (plainElem (H:=Unit) Tryz.prog 5) mb 2 lD
theorem LMap.below {w w' : World} {mb n₀ : Nat} (h : LMap w mb) (hb : Below n₀ w w') (hm : mb < n₀) : LMap w' mb:=by
 obtain ⟨es,clock,h1,h2,h3,h4⟩:=h
 exact ⟨es,clock,(hb.block mb hm).trans h1,h2,h3,h4⟩
end Go.Proofs.YtnojgiflgmnjlaaGreatDoor.L2
namespace Go.Proofs.YtnojgiflgmnjlaaGreatDoor.L2
open Go.RowKit
theorem A.strI (w : World) : (convert 5 9 (.int .u8 73)).run Tryz.prog w = .ok (.string ⟨#[73]⟩) w:=by kernel_rfl
end Go.Proofs.YtnojgiflgmnjlaaGreatDoor.L2
namespace Go.Proofs.YtnojgiflgmnjlaaGreatDoor.L2
open Go.RowKit
def rrOut (l : List UInt8) : Ds.Ty × Int:=match Ds.rd l with|none=>((0,[]),0)|some (k,m,n)=>((k,m),(n : Int))
theorem cut_pre {c : UInt8} : ∀ {pre r : List UInt8},(∀ x ∈ pre,x ≠ c) → Ds.cutC c (pre ++ c :: r) = some (pre,r)
 | [],r,_=>by rw [List.nil_append];unfold Ds.cutC;rw [if_pos rfl]
 | x :: pre,r,h=>by
  rw [List.cons_append]
  unfold Ds.cutC
  rw [if_neg (h x (by simp)),cut_pre fun y hy=>h y (by simp [hy])]
theorem cut_none {c : UInt8} : ∀ {pre : List UInt8},(∀ x ∈ pre,x ≠ c) → Ds.cutC c pre = none
 | [],_=>rfl
 | x :: pre,h=>by
  unfold Ds.cutC
  rw [if_neg (h x (by simp)),cut_none fun y hy=>h y (by simp [hy])]
def RrPost (s : ByteArray) (w : World) (e : Ending) (w' : World) : Prop:=e = .returned (.tuple #[tyV (rrOut (Ds.bl s)).1.1 (rrOut (Ds.bl s)).1.2,.int .i64 (rrOut (Ds.bl s)).2]) ∧ Below w.heap.size w w'
set_option maxHeartbeats 400000 in
theorem rread_nil (s : ByteArray) (w : World) (h : Ds.bl s = []) : Calls Tryz.prog 158 #[.string s] w (RrPost s w):=by
 unfold RrPost
 rw [h,show rrOut [] = ((0,[]),0) from rfl]
 unfold tyV
 have h0 : (s.toList.isEmpty) = true:=by rw [ByteArray.toList_eq];exact List.isEmpty_iff.2 h
 clear h
 go_enter Tryz.func158,Tryz.ntmps158
 go_wp2
 exact bodyPost_ret (v:=.tuple #[.agg #[.int .i64 0,.string ⟨#[]⟩],.int .i64 0]) (by simp [results,Tryz.results158,go_sem]) rfl ⟨rfl,BLw⟩
set_option maxHeartbeats 400000 in
theorem rread_letter (s : ByteArray) (c : UInt8) (l : List UInt8) (w : World) (h : Ds.bl s = c :: l) (hc : c = 73 ∨ c = 74) : Calls Tryz.prog 158 #[.string s] w (RrPost s w):=by
 unfold RrPost
 have h1:=size_pos h
 have h1' : (0 : Int) < s.size:=by omega
 have h0 : (s.toList.isEmpty) = false:=by
  rw [ByteArray.toList_eq]
  have : s.data.toList = c :: l:=h
  rw [this];rfl
 have HC : s[0]'h1 = c:=first_at h
 rw [h]
 rcases hc with rfl|rfl
 ·rw [show rrOut (73 :: l) = ((1,[]),1) from rfl]
  unfold tyV
  clear h
  go_enter Tryz.func158,Tryz.ntmps158
  go_wp2
  exact bodyPost_ret (v:=.tuple #[.agg #[.int .i64 1,.string ⟨#[]⟩],.int .i64 1]) (by simp [results,Tryz.results158,go_sem]) rfl ⟨rfl,BLw⟩
 ·rw [show rrOut (74 :: l) = ((2,[]),1) from rfl]
  unfold tyV
  clear h
  go_enter Tryz.func158,Tryz.ntmps158
  go_wp2
  exact bodyPost_ret (v:=.tuple #[.agg #[.int .i64 2,.string ⟨#[]⟩],.int .i64 1]) (by simp [results,Tryz.results158,go_sem]) rfl ⟨rfl,BLw⟩
set_option maxHeartbeats 400000 in
theorem rread_other (s : ByteArray) (c : UInt8) (l : List UInt8) (w : World) (h : Ds.bl s = c :: l) (c1 : c ≠ 73) (c2 : c ≠ 74) (c3 : c ≠ 91) (c4 : c ≠ 76) : Calls Tryz.prog 158 #[.string s] w (RrPost s w):=by
 unfold RrPost
 have h1:=size_pos h
 have h1' : (0 : Int) < s.size:=by omega
 have h0 : (s.toList.isEmpty) = false:=by
  rw [ByteArray.toList_eq]
  have : s.data.toList = c :: l:=h
  rw [this];rfl
 have HC : s[0]'h1 = c:=first_at h
 have d1 : ((c.toNat : Int) == 73) = false:=u8_ne c1
 have d2 : ((c.toNat : Int) == 74) = false:=u8_ne c2
 have d3 : ((c.toNat : Int) == 91) = false:=u8_ne c3
 have d4 : ((c.toNat : Int) == 76) = false:=u8_ne c4
 rw [h,show rrOut (c :: l) = ((0,[]),0) by unfold rrOut Ds.rd;rw [if_neg c1,if_neg c2,if_neg c3,if_neg c4]]
 unfold tyV
 clear h c1 c2 c3 c4
 go_enter Tryz.func158,Tryz.ntmps158
 go_wp2
 exact bodyPost_ret (v:=.tuple #[.agg #[.int .i64 0,.string ⟨#[]⟩],.int .i64 0]) (by simp [results,Tryz.results158,go_sem]) rfl ⟨rfl,BLw⟩
set_option maxHeartbeats 400000 in
theorem rread_arr (s : ByteArray) (l : List UInt8) (w : World) (h : Ds.bl s = 91 :: l) (hs : s.size ≤ 255) (IH : ∀ W,Calls Tryz.prog 158 #[.string (s.extract 1 s.size)] W (RrPost (s.extract 1 s.size) W)) : Calls Tryz.prog 158 #[.string s] w (RrPost s w):=by
 unfold RrPost at IH ⊢
 have h1:=size_pos h
 have h1' : (0 : Int) < s.size:=by omega
 have h1i : (1 : Int) ≤ s.size:=by omega
 have h0 : (s.toList.isEmpty) = false:=by
  rw [ByteArray.toList_eq]
  have : s.data.toList = 91 :: l:=h
  rw [this];rfl
 have HC : s[0]'h1 = 91:=first_at h
 rw [rest_at h] at IH
 rw [h]
 unfold rrOut at IH ⊢
 rw [show Ds.rd (91 :: l) = match Ds.rd l with|none=>none|some (_,_,n)=>some (4,(91 :: l).take (n + 1),n + 1) from rfl]
 cases hr : Ds.rd l with
 | none =>
  rw [hr] at IH
  dsimp only at IH ⊢
  unfold tyV at IH ⊢
  have HI:=hid IH
  clear IH h hr
  go_enter Tryz.func158,Tryz.ntmps158
  go_wp2_with (go_at_call 158;refine (HI.out _).mono ?_;rintro e w1 ⟨rfl,hb1⟩;obtain ⟨hcc,hff⟩:=bcell hb1;have hz1:=hb1.size;simp only [World.size_alloc] at hz1;have hz2 : w.heap.size < w1.heap.size:=(by omega))
  have hA:=belows (B:=w.heap.size) (a:=w) BLw hb1 (by simp)
  exact bodyPost_ret (v:=.tuple #[.agg #[.int .i64 0,.string ⟨#[]⟩],.int .i64 0]) (by simp [results,Tryz.results158,go_sem,hcc,hz2]) rfl ⟨rfl,BLw⟩
 | some y =>
  obtain ⟨k,m,n⟩:=y
  have hn:=Ds.rd_len hr
  obtain ⟨z1,z2⟩:=rest_size h
  rw [hr] at IH
  dsimp only at IH ⊢
  unfold tyV at IH ⊢
  have HI:=hid IH
  have hE:=hid (show s.extract 0 (n + 1) = ⟨((91 :: l).take (n + 1)).toArray⟩ from ba_ext (by rw [bl_ext,h];simp))
  have hb0 : ((n : Int) == 0) = false:=by rw [beq_eq_false_iff_ne];omega
  have hs1 : IntKind.i64.wrap ((n : Int) + 1) = (n : Int) + 1:=IntWalk.i64_in _ (by omega)
  have hs2 : (0 : Int) ≤ (n : Int) + 1:=by omega
  have hs3 : ((n : Int) + 1).toNat = n + 1:=by omega
  have hs4 : (n : Int) + 1 ≤ s.size:=by omega
  clear IH h hr z1 z2 hn
  go_enter Tryz.func158,Tryz.ntmps158
  go_wp2_with (go_at_call 158;refine (HI.out _).mono ?_;rintro e w1 ⟨rfl,hb1⟩;obtain ⟨hcc,hff⟩:=bcell hb1;have hz1:=hb1.size;simp only [World.size_alloc] at hz1;have hz2 : w.heap.size < w1.heap.size:=(by omega))
  have hA:=belows (B:=w.heap.size) (a:=w) BLw hb1 (by simp)
  rw [← hE.out,show ((n + 1 : Nat) : Int) = (n : Int) + 1 by omega]
  exact bodyPost_ret (v:=.tuple #[.agg #[.int .i64 4,.string (s.extract 0 (n + 1))],.int .i64 ((n : Int) + 1)]) (by simp [results,Tryz.results158,go_sem,hcc,hz2]) rfl ⟨rfl,BLw⟩
end Go.Proofs.YtnojgiflgmnjlaaGreatDoor.L2
