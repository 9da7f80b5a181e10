/- Own texts for the claim, part 21. -/
import Derived.Test.YtnojgiflgmnjlaaGreatDoorZD20
set_option maxRecDepth 100000
namespace Go.Proofs.YtnojgiflgmnjlaaGreatDoor
open Go Go.RowKit
theorem Mst.drew {w w' : World} {pb mb : Nat} {bs : List UInt8} {t : List UInt8 × Int} {cs : Array Value} (h : Mst w pb bs w' t mb cs) : Mst w pb bs w'.drew t mb cs:=h.below ((Below.refl _ _).drew)
theorem Mst.belowB {w w' w'' : World} {pb mb B : Nat} {bs : List UInt8} {t : List UInt8 × Int} {cs : Array Value} (h : Mst w pb bs w' t mb cs) (hb : Below B w' w'') (hB : mb < B) : Mst w pb bs w'' t mb cs:=by
 have h1:=h.lt
 have h2:=h.pl
 exact ⟨⟨hb.os.trans h.g.os,hb.tape.trans h.g.tape,hb.output.trans h.g.output,Nat.le_trans h.g.size hb.size,fun i hi hne=>(hb.block i (by omega)).trans (h.g.block i hi hne)⟩,h.r.below hb (by omega),h.rx.below hb (by omega),h.mx.below hb hB,h1,h2⟩
theorem own_form2 {w : World} {base : Nat} {e : TypeId} {size : Nat} {v : Value} {n : Nat} {xs : List Value} (h : w.ownsRow base e size v n xs) : ∃ a c,v = .slice a n c:=by
 rcases h.2 with ⟨h1,h2⟩|⟨g,cap,cur,h1,-⟩
 ·exact ⟨none,0,by rw [h1,h2]⟩
 ·exact ⟨_,_,h1⟩
theorem Cf.hn_run {t u1 u2 u3 u4 : List UInt8 × Int} {y1 y2 y3 y4 : Int} (h1 : Cf.Run Cf.u2 t y1 u1) (h2 : Cf.Run Cf.u2 u1 y2 u2) (h3 : Cf.Run Cf.u2 u2 y3 u3) (h4 : Cf.Run Cf.u2 u3 y4 u4) : Cf.Run Cf.hnP t ⟨y1,y2,y3,y4⟩ u4:=by
 unfold Cf.hnP
 refine Cf.Run.bnd h1 ?_
 refine Cf.Run.bnd h2 ?_
 refine Cf.Run.bnd h3 ?_
 refine Cf.Run.bnd h4 ?_
 exact Cf.Run.ret _ _
theorem Cf.listN_run {α : Type} {p : Cf.Ps α} {s t u : List UInt8 × Int} {K : Nat} {l : List α} (h1 : Cf.Run Cf.u2 s (K : Int) t) (h2 : Cf.Run (Cf.listP p K) t l u) : Cf.Run (Cf.listN p) s l u:=by
 unfold Cf.listN
 refine Cf.Run.bnd h1 ?_
 rw [Int.toNat_natCast]
 exact h2
theorem Cf.want_len {bs : List UInt8} {t8 r2 : List UInt8} {k8 k15 : Nat} {n : Int} (h8 : t8 = bs.drop k8) (h15 : r2 = bs.drop k15) (h1 : k8 ≤ bs.length) (h2 : k15 ≤ bs.length) : (!((k15 : Int) - (k8 : Int) != n)) = decide (n = (t8.length : Int) - (r2.length : Int)):=by
 rw [h8,h15,List.length_drop,List.length_drop]
 by_cases h : n = (k15 : Int) - (k8 : Int)
 ·rw [decide_eq_true (by omega)]
  simp [h]
 ·rw [decide_eq_false (by omega)]
  simp [bne,Ne.symm h]
theorem Cf.take_run {n : Nat} {s t : List UInt8 × Int} {l : List UInt8} (h : (s.2 = 0 ∧ n ≤ s.1.length ∧ l = s.1.take n ∧ t = (s.1.drop n,0)) ∨ (s.2 = 0 ∧ s.1.length < n ∧ l = [] ∧ t.2 = 30) ∨ (s.2 ≠ 0 ∧ l = [] ∧ t.2 = s.2)) : Cf.Run (Cf.takeP n) s l t:=by
 rcases h with ⟨h0,h1,rfl,rfl⟩|⟨h0,h1,rfl,h3⟩|⟨h0,rfl,h3⟩
 ·exact ⟨fun h=>absurd h0 h,fun _=>.inr ⟨by unfold Cf.takeP;rw [if_pos h1],rfl⟩⟩
 ·exact ⟨fun h=>absurd h0 h,fun _=>.inl ⟨30,by unfold Cf.takeP;rw [if_neg (by omega)],by decide,h3⟩⟩
 ·exact .dead h0 h3
theorem Cf.take_short {n : Nat} {s t : List UInt8 × Int} {l : List UInt8} (h : (s.2 = 0 ∧ n ≤ s.1.length ∧ l = s.1.take n ∧ t = (s.1.drop n,0)) ∨ (s.2 = 0 ∧ s.1.length < n ∧ l = [] ∧ t.2 = 30) ∨ (s.2 ≠ 0 ∧ l = [] ∧ t.2 = s.2)) : l.length ≤ n:=by
 rcases h with ⟨-,-,rfl,-⟩|⟨-,-,rfl,-⟩|⟨-,rfl,-⟩
 ·rw [List.length_take];omega
 ·simp
 ·simp
theorem Cf.list_more {α : Type} {p : Cf.Ps α} : ∀ {j : Nat} {l : List UInt8} {e : Int},Cf.listP p j l = .error e → Cf.listP p (j + 1) l = .error e
 | 0,l,e,h=>by cases h
 | j + 1,l,e,h=>by
  unfold Cf.listP at h ⊢
  cases hx : p l with
  | error e'=>rw [Cf.bnd_err hx] at h ⊢;exact h
  | ok y =>
   obtain ⟨b,r⟩:=y
   rw [Cf.bnd_ok hx] at h ⊢
   cases hy : Cf.listP p j r with
   | error e'=>rw [Cf.bnd_err hy] at h;cases h;exact Cf.bnd_err (Cf.list_more hy)
   | ok y=>obtain ⟨l',r'⟩:=y;rw [Cf.bnd_ok hy] at h;cases h
theorem Cf.list_snoc {α : Type} {p : Cf.Ps α} : ∀ {j : Nat} {s t u : List UInt8 × Int} {l : List α} {a : α},Cf.Run (Cf.listP p j) s l t → Cf.Run p t a u → l.length = j → Cf.Run (Cf.listP p (j + 1)) s (l ++ [a]) u
 | 0,s,t,u,l,a,h,k,hl=>by
  have h0 : l = []:=List.eq_nil_of_length_eq_zero hl
  subst h0
  have hst : t.2 = s.2 ∧ (s.2 = 0 → t.1 = s.1):=by
   refine ⟨?_,fun h0=>?_⟩
   ·by_cases h0 : s.2 = 0
    ·rcases h.2 h0 with ⟨e,q,-,-⟩|⟨q,q2⟩
     ·cases q
     ·rw [q2,h0]
    ·exact h.1 h0
   ·rcases h.2 h0 with ⟨e,q,-,-⟩|⟨q,q2⟩
    ·cases q
    ·exact ((Prod.mk.inj (Except.ok.inj q)).2).symm
  have k' : Cf.Run p s a u:=by
   refine ⟨fun h0=>by rw [k.1 (by rw [hst.1];exact h0),hst.1],fun h0=>?_⟩
   rw [← hst.2 h0]
   exact k.2 (by rw [hst.1];exact h0)
  unfold Cf.listP
  refine Cf.Run.bnd k' ?_
  unfold Cf.listP
  refine Cf.Run.bnd (Cf.Run.ret [] u) ?_
  exact Cf.Run.ret _ _
 | j + 1,s,t,u,l,a,h,k,hl=>by
  by_cases ht : t.2 = 0
  ·obtain ⟨h0,hp⟩:=h.alive ht
   have hp2:=hp
   unfold Cf.listP at hp
   cases hx : p s.1 with
   | error e=>rw [Cf.bnd_err hx] at hp;cases hp
   | ok y =>
    obtain ⟨b,r⟩:=y
    rw [Cf.bnd_ok hx] at hp
    cases hy : Cf.listP p j r with
    | error e=>rw [Cf.bnd_err hy] at hp;cases hp
    | ok y =>
     obtain ⟨l',r'⟩:=y
     rw [Cf.bnd_ok hy] at hp
     obtain ⟨e1,e2⟩:=Prod.mk.inj (Except.ok.inj hp)
     subst e1
     have ih:=Cf.list_snoc (p:=p) (j:=j) (s:=(r,0)) (t:=t) (u:=u) (l:=l') (a:=a) ⟨fun h=>absurd rfl h,fun _=>.inr ⟨by rw [← e2];exact hy,ht⟩⟩ k (by simpa using hl)
     rw [List.cons_append]
     have h1 : Cf.Run p s b (r,0):=⟨fun h=>absurd h0 h,fun _=>.inr ⟨hx,rfl⟩⟩
     show Cf.Run (Cf.bnd p fun a=>Cf.bnd (Cf.listP p (j + 1)) fun l=>Cf.ret (a :: l)) s _ u
     refine Cf.Run.bnd h1 ?_
     refine Cf.Run.bnd ih ?_
     exact Cf.Run.ret _ _
  ·have hu : u.2 = t.2:=k.1 ht
   refine ⟨fun h0=>by rw [hu];exact h.1 h0,fun h0=>?_⟩
   have hf:=h.failed h0 ht
   refine .inl ⟨t.2,Cf.list_more hf,ht,hu⟩
theorem Cf.list_early {α : Type} {p : Cf.Ps α} {j n : Nat} {s t : List UInt8 × Int} {l l' : List α} (h : Cf.Run (Cf.listP p j) s l t) (ht : t.2 ≠ 0) (hn : j ≤ n) : Cf.Run (Cf.listP p n) s l' t:=by
 refine ⟨h.1,fun h0=>.inl ⟨t.2,?_,ht,rfl⟩⟩
 have hf:=h.failed h0 ht
 obtain ⟨d,rfl⟩:=Nat.exists_eq_add_of_le hn
 clear hn h h0
 induction d with
 | zero=>exact hf
 | succ d ih=>exact Cf.list_more ih
set_option maxHeartbeats 4000000 in
theorem dmethod_any (pb : Nat) (bs : List UInt8) (s : List UInt8 × Int) (Pl : List L3.Cp.C) (pa : Option Addr) (pc : Nat) (w : World) (hr : RdD w pb bs s) (hP : ∀ W,w.grownBy W (some pb) → Kit.IsS 5 W (.slice pa Pl.length pc) Pl.length (Pl.flatMap L3.cL)) :
  Calls Tryz.prog 41 #[.pointer (some ⟨pb,0,none⟩),.slice pa Pl.length pc] w fun e w'=>∃ (m : Cf.Mb) (t : List UInt8 × Int) (ca ha : Option Addr) (cn hn cc hc : Nat),e = .returned (mbV m (.slice ca cn cc) (.slice ha hn hc)) ∧ OMb w' w.heap.size (mL m (.slice ca cn cc) (.slice ha hn hc)) m ∧ Cf.Run (Cf.meP (Cf.cix Pl : Nat)) s m t ∧ w.grownBy w' (some pb) ∧ RdD w' pb bs t:=by
 have HN:=hid (fun s W (k : RdD W pb bs s)=>num2_any pb bs s W k)
 have HV:=hid (fun s W (k : RdD W pb bs s)=>num4_any pb bs s W k)
 have HF:=hid (fun s x W (k : RdD W pb bs s)=>failR_any pb bs s x 43 (by decide) W k)
 have HY:=hid (fun (n : Nat) s W (hn : n ≤ 4294967296) (k : RdD W pb bs s)=>bytes_any pb n bs s W hn k)
 have HPl:=hid hP
 have hzp:=hr.sz
 clear hP
 go_enter Tryz.func41,Tryz.ntmps41
 go_wp2_with fail
 obtain ⟨W0,hW0⟩ : ∃ W0,W0 = w.alloc (.cells #[.int .i64 0,.int .i64 0,.int .i64 0,.int .i64 0,.int .i64 0,.slice none 0 0,.slice none 0 0] 42):=⟨_,rfl⟩
 rw [← hW0]
 have HR0:=hid (show RdD W0 pb bs s by rw [hW0];exact hr.al _)
 have HG0:=hid (show w.grownBy W0 (some pb) by rw [hW0];exact grown_alloc (grown_refl' _ _) _)
 have HX0:=hid (show L3.BX W0 w.heap.size #[.int .i64 0,.int .i64 0,.int .i64 0,.int .i64 0,.int .i64 0,.slice none 0 0,.slice none 0 0] 42 by rw [hW0];exact L3.BX.new _ _ _)
 clear hW0 hr
 refine (HN.out s W0 HR0.out).mono ?_
 rintro e w1 ⟨x1,t1,rfl,hx,hrun,hg,hr⟩
 have HU1:=hid hrun
 have HR1:=hid hr
 have HG1:=hid (L3.grown_trans HG0.out hg)
 have HX1:=hid (HX0.out.grown hg (fun e=>by (have:=Option.some.inj e;omega)))
 clear hx hrun hg hr
 go_wp2_with fail
 refine (HN.out t1 w1 HR1.out).mono ?_
 rintro e w2 ⟨x2,t2,rfl,hx,hrun,hg,hr⟩
 have HU2:=hid hrun
 have HR2:=hid hr
 have HG2:=hid (L3.grown_trans HG1.out hg)
 have HX2:=hid (HX1.out.grown hg (fun e=>by (have:=Option.some.inj e;omega)))
 clear hx hrun hg hr
 go_wp2_with fail
 refine (HN.out t2 w2 HR2.out).mono ?_
 rintro e w3 ⟨x3,t3,rfl,hx,hrun,hg,hr⟩
 have HU3:=hid hrun
 have HR3:=hid hr
 have HG3:=hid (L3.grown_trans HG2.out hg)
 have HX3:=hid (HX2.out.grown hg (fun e=>by (have:=Option.some.inj e;omega)))
 clear hx hrun hg hr
 go_wp2_with fail
 obtain ⟨mb,hmb⟩ : ∃ mb,mb = w3.heap.size:=⟨_,rfl⟩
 obtain ⟨W3,hW3⟩ : ∃ W3,W3 = w3.alloc (.cells #[.int .i64 x1,.int .i64 x2,.int .i64 x3,.int .i64 0,.int .i64 0,.slice none 0 0,.slice none 0 0] 42):=⟨_,rfl⟩
 have hzx:=HX3.out.sz
 have HM3:=hid (show Mst w pb bs W3 t3 mb #[.int .i64 x1,.int .i64 x2,.int .i64 x3,.int .i64 0,.int .i64 0,.slice none 0 0,.slice none 0 0] by rw [hW3,hmb];exact ⟨grown_alloc HG3.out _,HR3.out.al _,BX.al HX3.out _,L3.BX.new _ _ _,hzx,hzp⟩)
 rw [← hW3,← hmb]
 have hmlt : w.heap.size < mb:=by rw [hmb];exact hzx
 clear hW3 hmb hzx HG0 HG1 HG2 HG3 HR0 HR1 HR2 HR3 HX0 HX1 HX2 HX3
 refine (HN.out t3 W3 HM3.out.r).mono ?_
 rintro e w4 ⟨x4,t4,rfl,hx,hrun,hg,hr⟩
 have HU4:=hid hrun
 have HM4:=hid (HM3.out.step hg hr)
 have hx4:=hx
 clear hx hrun hg hr
 obtain ⟨y4,hy4⟩ : ∃ y,y = (x4 != 1):=⟨_,rfl⟩
 have HY4:=hid hy4
 go_wp2_with fail
 rw [← hy4]
 clear hy4
 refine (HF.out t4 y4 w4 HM4.out.r).mono ?_
 rintro e w5 ⟨rfl,t5,hrun,hg,hr⟩
 have HU5:=hid hrun
 have HM5:=hid (HM4.out.step hg hr)
 clear hrun hg hr
 go_wp2_with fail
 refine (HN.out t5 w5 HM5.out.r).mono ?_
 rintro e w6 ⟨x6,t6,rfl,hx,hrun,hg,hr⟩
 have HU6:=hid hrun
 have HM6:=hid (HM5.out.step hg hr)
 have hx6:=hx
 clear hx hrun hg hr
 go_upto_region 4 with fail
 go_cut [6] (fun b wx=>b = .int .i64 x6 ∧ ∃ t7,Cf.Run (Cf.want (decide (x6 = (Cf.cix Pl : Nat) ∧ x6 ≠ 0)) 43) t6 () t7 ∧ Mst w pb bs wx t7 mb #[.int .i64 x1,.int .i64 x2,.int .i64 x3,.int .i64 0,.int .i64 0,.slice none 0 0,.slice none 0 0])
 case first =>
  by_cases h0 : x6 = 0
  ·subst h0
   go_wp2_with fail
   refine (HF.out t6 true w6 HM6.out.r).mono ?_
   rintro e w7 ⟨rfl,t7,hrun,hg,hr⟩
   have HU7:=hid hrun
   have HM7:=hid (HM6.out.step hg hr)
   clear hrun hg hr
   go_wp2_with fail
   go_meet
   exact ⟨rfl,t7,by rw [show decide ((0 : Int) = (Cf.cix Pl : Nat) ∧ (0 : Int) ≠ 0) = false from decide_eq_false (fun h=>h.2 rfl)];exact HU7.out,HM7.out⟩
  ·have hd : (x6 == 0) = false:=by simpa using h0
   have H0:=hid h0
   clear h0
   go_wp2_with fail
   refine (rcodes_any Pl _ w6 (HPl.out w6 HM6.out.g)).mono ?_
   rintro e w7 ⟨rfl,hb⟩
   have HM6':=hid (HM6.out.below hb)
   clear hb
   obtain ⟨y7,hy7⟩ : ∃ y,y = (x6 != (Cf.cix Pl : Nat)):=⟨_,rfl⟩
   have HY7:=hid hy7
   go_wp2_with fail
   rw [← hy7]
   clear hy7
   refine (HF.out t6 y7 w7 HM6'.out.r).mono ?_
   rintro e w8 ⟨rfl,t7,hrun,hg,hr⟩
   have HU7:=hid hrun
   have HM7:=hid (HM6'.out.step hg hr)
   clear hrun hg hr
   go_wp2_with fail
   go_meet
   exact ⟨rfl,t7,by rw [show decide (x6 = (Cf.cix Pl : Nat) ∧ x6 ≠ 0) = !y7 from by rw [HY7.out];have:=H0.out;by_cases h : x6 = (Cf.cix Pl : Nat) <;> simp [h,this,bne];(first|done|(intro h2;exact this (h.trans (by exact_mod_cast h2))))];exact HU7.out,HM7.out⟩
 case rest =>
  obtain ⟨rfl,t7,hU7,hM7⟩:=hcut
  have HU7:=hid hU7
  have HM7:=hid hM7
  clear hU7 hM7
  go_wp2_with fail
  refine (HV.out t7 wc HM7.out.r).mono ?_
  rintro e w8 ⟨x8,t8,rfl,hx8,hrun,hg,hr⟩
  have HU8:=hid hrun
  have HM8:=hid (HM7.out.step hg hr)
  have HGs8:=hid hg
  clear hrun hg hr
  obtain ⟨v8,k8,hb8,-,hk8,hs8⟩:=HM8.out.r
  have q1:=hb8.cell 1
  simp at q1
  have HK8:=hid (And.intro hk8 hs8)
  clear hb8 hk8 hs8
  go_wp2_with fail
  clear q1
  refine (HN.out t8 w8 HM8.out.r).mono ?_
  rintro e w9 ⟨x9,t9,rfl,hx9,hrun,hg,hr⟩
  have HU9:=hid hrun
  have HM9:=hid (HM8.out.step hg hr)
  have HGs9:=hid hg
  clear hrun hg hr
  have f3:=HM9.out.mx.frozen 3
  have c3:=HM9.out.mx.cell 3
  simp at c3
  go_wp2_with fail
  clear f3 c3
  have hset:=HM9.out.set 3 (.int .i64 x9)
  simp only [List.setIfInBounds_toArray,List.set_cons_zero,List.set_cons_succ] at hset
  obtain ⟨X9,hX⟩ : ∃ X,X = w9.setCell ⟨mb,3,none⟩ (.int .i64 x9):=⟨_,rfl⟩
  rw [← hX] at hset ⊢
  have HX9:=hid hset
  clear hset hX
  refine (HN.out t9 X9 HX9.out.r).mono ?_
  rintro e w10 ⟨x10,t10,rfl,hx10,hrun,hg,hr⟩
  have HU10:=hid hrun
  have HM10:=hid (HX9.out.step hg hr)
  have HGs10:=hid hg
  clear hrun hg hr
  have f4:=HM10.out.mx.frozen 4
  have c4:=HM10.out.mx.cell 4
  simp at c4
  go_wp2_with fail
  clear f4 c4
  have hset:=HM10.out.set 4 (.int .i64 x10)
  simp only [List.setIfInBounds_toArray,List.set_cons_zero,List.set_cons_succ] at hset
  obtain ⟨X10,hX⟩ : ∃ X,X = w10.setCell ⟨mb,4,none⟩ (.int .i64 x10):=⟨_,rfl⟩
  rw [← hX] at hset ⊢
  have HX10:=hid hset
  clear hset hX
  refine (HV.out t10 X10 HX10.out.r).mono ?_
  rintro e w11 ⟨x11,t11,rfl,hx11,hrun,hg,hr⟩
  have HU11:=hid hrun
  have HM11:=hid (HX10.out.step hg hr)
  have HGs11:=hid hg
  clear hrun hg hr
  obtain ⟨cn,rfl⟩:=Int.eq_ofNat_of_zero_le hx11.1
  go_wp2_with fail
  refine (HY.out cn t11 w11 (by omega) HM11.out.r).mono ?_
  rintro e w12 ⟨v12,t12,l,rfl,hv,hst,hcase⟩
  obtain ⟨va,vc,rfl⟩:=hv.len
  have HM12:=hid (HM11.out.step hst.1 hst.2)
  have HU12:=hid (Cf.take_run hcase)
  have HL12:=hid (show l.length ≤ cn from Cf.take_short hcase)
  have HV12:=hid hv
  have hcn : cn < 4294967296:=by omega
  clear hv hst hcase
  go_wp2_with (at_builtin;go_loud (refine wpList_append_bs rfl (.const (.slice none 0 0)) (.tmp 49) rfl rfl _ rfl pb l HV12.out (by have:=HL12.out;omega) ?_;intro cb cc w13 ho hb;have HM13:=hid (HM12.out.below hb);have HO13:=hid (L3.own_mono (base':=mb + 1) ho HM12.out.mx.sz);have f5:=HM13.out.mx.frozen 5;have c5:=HM13.out.mx.cell 5;simp at c5;clear ho hb))
  clear f5 c5
  have hset:=HM13.out.set 5 (.slice cb l.length cc)
  simp only [List.setIfInBounds_toArray,List.set_cons_zero,List.set_cons_succ] at hset
  obtain ⟨X13,hX⟩ : ∃ X,X = w13.setCell ⟨mb,5,none⟩ (.slice cb l.length cc):=⟨_,rfl⟩
  rw [← hX] at hset ⊢
  have HX13:=hid hset
  have HOx:=hid (show X13.ownsRow (mb + 1) 5 1 (.slice cb l.length cc) l.length (l.map L3.bv) by rw [hX];exact Kit.owns_grown HO13.out (L3.set_grown _ _ _ _) (Nat.lt_succ_self mb))
  clear hset hX
  refine (HN.out t12 X13 HX13.out.r).mono ?_
  rintro e w14 ⟨x14,t14,rfl,hx14,hrun,hg,hr⟩
  have HU14:=hid hrun
  have HM14:=hid (HX13.out.step hg hr)
  have HGs14:=hid hg
  clear hrun hg hr
  obtain ⟨K,rfl⟩:=Int.eq_ofNat_of_zero_le hx14.1
  have HO14:=hid (Kit.owns_grown HOx.out HGs14.out (by omega))
  go_wp2_with fail
  go_loopw [9] (fun kk wr=>∃ (j : Nat) (t : List UInt8 × Int) (hs : List Cf.Hn) (ha : Option Addr) (hc : Nat),j ≤ K ∧ kk = .int .i64 ((K : Int) - (j : Int)) ∧ Hid (hs.length = j ∧ Cf.Run (Cf.listP Cf.hnP j) t14 hs t ∧ Mst w pb bs wr t mb #[.int .i64 x1,.int .i64 x2,.int .i64 x3,.int .i64 x9,.int .i64 x10,.slice cb l.length cc,.slice ha j hc] ∧ wr.ownsRow (mb + 1) 5 1 (.slice cb l.length cc) l.length (l.map L3.bv) ∧ wr.ownsRow (mb + 1) 58 4 (.slice ha j hc) j (hs.flatMap hL))) (fun kk _=>(intOf kk).toNat)
  case atStart=>exact ⟨0,t14,[],none,0,Nat.zero_le _,by simp,hid ⟨rfl,Cf.Run.ret [] t14,HM14.out,HO14.out,rfl,.inl ⟨rfl,rfl⟩⟩⟩
  case round =>
   obtain ⟨j,t,hs,ha,hc,hj,rfl,HI⟩:=hrel
   have hK:=hx14.2
   obtain ⟨v9,k9,hb9,-⟩:=HI.out.2.2.1.r
   have q2:=hb9.cell 2
   simp at q2
   clear hb9
   by_cases hlt : j < K
   ·have hji : (j : Int) < (K : Int):=by omega
    by_cases ht : t.2 = 0
    ·have hd : (t.2 == 0) = true:=by simpa using ht
     have HT:=hid ht
     clear ht
     have hMd:=HI.out.2.2.1.drew
     have m6:=hMd.mx.cell 6
     simp at m6
     have HMd:=hid hMd
     have HC0:=hid (Kit.owns_below HI.out.2.2.2.1 (show Below wr.heap.size wr wr.drew from (Below.refl _ _).drew) (Nat.le_refl _))
     have HO0:=hid (Kit.owns_below HI.out.2.2.2.2 (show Below wr.heap.size wr wr.drew from (Below.refl _ _).drew) (Nat.le_refl _))
     clear hMd
     have cfN:=fun (u v : Value) (w : World)=>(show (callFunc 37 #[u,v]).run Tryz.prog w = .ok (.enter 37 #[u,v]) w by kernel_rfl)
     obtain ⟨i0,hi,hz0,hz1,hz2⟩:=info_parts infoH
     go_wp2_with fail
     go_region_law (first
      | ((fail_if_success (have _g:=HA1));refine Kit.step_call2 rfl 37 (.tmp 67) (.const (.int .i64 2)) 63 3 rfl _ _ rfl rfl (cfN _ _ _) _ (HN.out t wr.drew HMd.out.r) ?_;rintro e w1 ⟨y1,u1,rfl,hy,hrun,hg,hr⟩;refine ⟨_,rfl,?_⟩;have HA1:=hid hrun;have HB1:=hid (HMd.out.step hg hr);have HC1:=hid (Kit.owns_grown HC0.out hg (by (have:=HMd.out.pl;have:=HMd.out.lt;omega)));have HO1:=hid (Kit.owns_grown HO0.out hg (by (have:=HMd.out.pl;have:=HMd.out.lt;omega)));clear m6;have m6:=HB1.out.mx.cell 6;simp at m6;have hzm1:=HB1.out.mx.sz;clear hy hrun hg hr)
      | (have _g:=HA1;(fail_if_success (have _g:=HA2));refine Kit.step_call2 rfl 37 (.tmp 69) (.const (.int .i64 2)) 63 3 rfl _ _ rfl rfl (cfN _ _ _) _ (HN.out u1 w1 HB1.out.r) ?_;rintro e w2 ⟨y2,u2,rfl,hy,hrun,hg,hr⟩;refine ⟨_,rfl,?_⟩;have HA2:=hid hrun;have HB2:=hid (HB1.out.step hg hr);have HC2:=hid (Kit.owns_grown HC1.out hg (by (have:=HB1.out.pl;have:=HB1.out.lt;omega)));have HO2:=hid (Kit.owns_grown HO1.out hg (by (have:=HB1.out.pl;have:=HB1.out.lt;omega)));clear m6;have m6:=HB2.out.mx.cell 6;simp at m6;have hzm2:=HB2.out.mx.sz;clear hy hrun hg hr)
      | (have _g:=HA2;(fail_if_success (have _g:=HA3));refine Kit.step_call2 rfl 37 (.tmp 71) (.const (.int .i64 2)) 63 3 rfl _ _ rfl rfl (cfN _ _ _) _ (HN.out u2 w2 HB2.out.r) ?_;rintro e w3 ⟨y3,u3,rfl,hy,hrun,hg,hr⟩;refine ⟨_,rfl,?_⟩;have HA3:=hid hrun;have HB3:=hid (HB2.out.step hg hr);have HC3:=hid (Kit.owns_grown HC2.out hg (by (have:=HB2.out.pl;have:=HB2.out.lt;omega)));have HO3:=hid (Kit.owns_grown HO2.out hg (by (have:=HB2.out.pl;have:=HB2.out.lt;omega)));clear m6;have m6:=HB3.out.mx.cell 6;simp at m6;have hzm3:=HB3.out.mx.sz;clear hy hrun hg hr)
      | (have _g:=HA3;(fail_if_success (have _g:=HA4));refine Kit.step_call2 rfl 37 (.tmp 73) (.const (.int .i64 2)) 63 3 rfl _ _ rfl rfl (cfN _ _ _) _ (HN.out u3 w3 HB3.out.r) ?_;rintro e w4 ⟨y4,u4,rfl,hy,hrun,hg,hr⟩;refine ⟨_,rfl,?_⟩;have HA4:=hid hrun;have HB4:=hid (HB3.out.step hg hr);have HC4:=hid (Kit.owns_grown HC3.out hg (by (have:=HB3.out.pl;have:=HB3.out.lt;omega)));have HO4:=hid (Kit.owns_grown HO3.out hg (by (have:=HB3.out.pl;have:=HB3.out.lt;omega)));clear m6;have m6:=HB4.out.mx.cell 6;simp at m6;have hzm4:=HB4.out.mx.sz;clear hy hrun hg hr)
      | (have _g:=HA4;refine Kit.step_append_own rfl (.tmp 66) (.tmp 76) 40 rfl (mb + 1) 58 i0 _ 4 32 Tryz.underlying40 hi hz0 hz1 hz2 rfl (by decide) (.slice ha j hc) j (hs.flatMap hL) rfl (World.ownsRow.alloc HO4.out _) ⟨w4.heap.size,0,none⟩ 1 1 (hL ⟨y1,y2,y3,y4⟩) rfl rfl (news_h w4 ⟨y1,y2,y3,y4⟩) (ones_h ⟨y1,y2,y3,y4⟩) (by unfold maxLen;omega) (by omega) (by (have:=HB4.out.mx.sz;simp only [World.size_alloc];omega)) ?_;intro v5 w5 ho5 hg5 hk5;have hbB : Below (mb + 1) w4 w5:=(((Below.refl w4.heap.size w4).alloc (Nat.le_refl _) (.cells #[.int .i64 y1,.int .i64 y2,.int .i64 y3,.int .i64 y4] 58)).mono HB4.out.mx.sz).grown hg5 (by (have:=HB4.out.mx.sz;simp only [World.size_alloc];omega)) (fun k hk=>Kit.own_base HO4.out k hk);obtain ⟨ha5,hc5,rfl⟩:=own_form2 ho5;have HO5:=hid ho5;have HC5:=hid (owns_apart (World.ownsRow.alloc HC4.out _) (World.ownsRow.alloc HO4.out _) (by decide) hg5);have HB5:=hid (HB4.out.belowB hbB (Nat.lt_succ_self mb));have f6:=HB5.out.mx.frozen 6;clear m6;have m6:=HB5.out.mx.cell 6;simp at m6;clear ho5 hg5 hk5 hbB))
     all_goals
      go_wp2
      go_roundw
      case rel =>
       have hset:=HB5.out.set 6 (.slice ha5 (j + 1) hc5)
       simp only [List.setIfInBounds_toArray,List.set_cons_zero,List.set_cons_succ] at hset
       have hgs:=L3.set_grown w5 mb 6 (.slice ha5 (j + 1) hc5)
       exact ⟨j + 1,u4,hs ++ [⟨y1,y2,y3,y4⟩],ha5,hc5,by omega,by go_num,hid ⟨by rw [List.length_append,HI.out.1];rfl,Cf.list_snoc HI.out.2.1 (Cf.hn_run HA1.out HA2.out HA3.out HA4.out) HI.out.1,hset,Kit.owns_grown HC5.out hgs (Nat.lt_succ_self mb),by rw [List.flatMap_append];simpa using Kit.owns_grown HO5.out hgs (Nat.lt_succ_self mb)⟩⟩
      case measure=>simp [intOf];omega
    ·have hd : (t.2 == 0) = false:=by simpa using ht
     have HRL:=hid (Cf.list_early (l':=hs) HI.out.2.1 ht hj)
     clear ht
     go_wp2_with fail
     clear q2
     refine (HN.out t _ HI.out.2.2.1.r).mono ?_
     rintro e v1 ⟨z1,r1,rfl,hz1,hrun,hg,hr⟩
     have HZ1:=hid hrun
     have HN1:=hid (HI.out.2.2.1.step hg hr)
     have HCa:=hid (Kit.owns_grown HI.out.2.2.2.1 hg (by omega))
     have HOa:=hid (Kit.owns_grown HI.out.2.2.2.2 hg (by omega))
     clear hz1 hrun hg hr
     obtain ⟨b1,hb1⟩ : ∃ y,y = (z1 != 0):=⟨_,rfl⟩
     have HYa:=hid hb1
     go_wp2_with fail
     rw [← hb1]
     clear hb1
     refine (HF.out r1 b1 v1 HN1.out.r).mono ?_
     rintro e v2 ⟨rfl,r2,hrun,hg,hr⟩
     have HZ2:=hid hrun
     have HN2:=hid (HN1.out.step hg hr)
     have HCb:=hid (Kit.owns_grown HCa.out hg (by omega))
     have HOb:=hid (Kit.owns_grown HOa.out hg (by omega))
     clear hrun hg hr
     obtain ⟨v15,k15,hb15,hv15,hk15,hs15⟩:=HN2.out.r
     have q1:=hb15.cell 1
     simp at q1
     have hbl:=hv15.1
     have hk8:=HK8.out.1
     have HS15:=hid hs15
     clear hb15 hv15 hs15
     obtain ⟨b2,hb2⟩ : ∃ y,y = ((k15 : Int) - (k8 : Int) != x8):=⟨_,rfl⟩
     have HYb:=hid hb2
     go_wp2_with fail
     rw [← hb2]
     clear hb2 q1
     refine (HF.out r2 b2 v2 HN2.out.r).mono ?_
     rintro e v3 ⟨rfl,r3,hrun,hg,hr⟩
     have HZ3:=hid hrun
     have hN3:=HN2.out.step hg hr
     have HCc:=hid (Kit.owns_grown HCb.out hg (by omega))
     have HOc:=hid (Kit.owns_grown HOb.out hg (by omega))
     clear hrun hg hr
     have bM:=hN3.mx
     have bX:=hN3.rx
     have hzx5:=bX.sz
     obtain ⟨m0,m1,m2,m3,m4,m5,m6⟩:=bM.cells7
     obtain ⟨q0,q1,q2,q3,q4,q5,q6⟩:=bX.cells7
     have f0:=bX.frozen 0;have f1:=bX.frozen 1;have f2:=bX.frozen 2;have f3:=bX.frozen 3;have f4:=bX.frozen 4;have f5:=bX.frozen 5;have f6:=bX.frozen 6
     have HX5:=hid bX
     have HN3:=hid hN3
     clear bX bM hN3
     go_wp2
     clear m0 m1 m2 m3 m4 m5 m6 q0 q1 q2 q3 q4 q5 q6 f0 f1 f2 f3 f4 f5 f6
     have k7:=put7 HX5.out rfl (.int .i64 x1) (.int .i64 x2) (.int .i64 x3) (.int .i64 x9) (.int .i64 x10) (.slice cb l.length cc) (.slice ha j hc)
     have g7:=grown7 v3 w.heap.size (.int .i64 x1) (.int .i64 x2) (.int .i64 x3) (.int .i64 x9) (.int .i64 x10) (.slice cb l.length cc) (.slice ha j hc)
     have hrF:=HN3.out.r.off g7 (by omega)
     have hgF:=grown_off HN3.out.g g7 (Nat.le_refl _)
     have hCF:=L3.own_mono (base':=w.heap.size) (Kit.owns_grown HCc.out g7 (by omega)) (by omega)
     have hOF:=L3.own_mono (base':=w.heap.size) (Kit.owns_grown HOc.out g7 (by omega)) (by omega)
     obtain ⟨F,hF⟩ : ∃ F,F = (((((((v3.setCell ⟨w.heap.size,0,none⟩ (.int .i64 x1)).setCell ⟨w.heap.size,1,none⟩ (.int .i64 x2)).setCell ⟨w.heap.size,2,none⟩ (.int .i64 x3)).setCell ⟨w.heap.size,3,none⟩ (.int .i64 x9)).setCell ⟨w.heap.size,4,none⟩ (.int .i64 x10)).setCell ⟨w.heap.size,5,none⟩ (.slice cb l.length cc)).setCell ⟨w.heap.size,6,none⟩ (.slice ha j hc)):=⟨_,rfl⟩
     rw [← hF] at k7 hrF hgF hCF hOF ⊢
     clear g7 hF
     obtain ⟨q0,q1,q2,q3,q4,q5,q6⟩:=k7.cells7
     have hlh:=HI.out.1
     exact bodyPost_ret (v:=.agg #[.int .i64 x1,.int .i64 x2,.int .i64 x3,.int .i64 x9,.int .i64 x10,.slice cb l.length cc,.slice ha j hc]) (by simp [results,Tryz.results41,go_sem,q0,q1,q2,q3,q4,q5,q6]) rfl ⟨⟨x1,x2,x3,x9,x10,l,hs⟩,r3,cb,ha,l.length,j,cc,hc,rfl,⟨_,_,rfl,hCF,by show F.ownsRow _ _ _ _ hs.length _;rw [hlh];exact hOF,by have:=HL12.out;show l.length ≤ _;omega,by show hs.length ≤ _;omega⟩,Cf.me_run HU1.out HU2.out HU3.out HU4.out (by have h9:=HU5.out;rw [HY4.out,show (!(x4 != 1)) = (x4 == 1) by simp [bne]] at h9;exact h9) HU6.out HU7.out HU8.out HU9.out HU10.out HU11.out (by rw [Int.toNat_natCast];exact HU12.out) (Cf.listN_run HU14.out HRL.out) (Cf.none_run HZ1.out (by have h9:=HZ2.out;rw [HYa.out,show (!(z1 != 0)) = (z1 == 0) by simp [bne]] at h9;exact h9)) (fun _=>by have h9:=HZ3.out;rw [HYb.out,Cf.want_len HK8.out.2 HS15.out (by omega) (by omega)] at h9;exact h9) HZ3.out.1,hgF,hrF⟩
   ·obtain rfl : j = K:=by omega
    have HRL:=hid HI.out.2.1
    go_wp2_with fail
    clear q2
    refine (HN.out t _ HI.out.2.2.1.r).mono ?_
    rintro e v1 ⟨z1,r1,rfl,hz1,hrun,hg,hr⟩
    have HZ1:=hid hrun
    have HN1:=hid (HI.out.2.2.1.step hg hr)
    have HCa:=hid (Kit.owns_grown HI.out.2.2.2.1 hg (by omega))
    have HOa:=hid (Kit.owns_grown HI.out.2.2.2.2 hg (by omega))
    clear hz1 hrun hg hr
    obtain ⟨b1,hb1⟩ : ∃ y,y = (z1 != 0):=⟨_,rfl⟩
    have HYa:=hid hb1
    go_wp2_with fail
    rw [← hb1]
    clear hb1
    refine (HF.out r1 b1 v1 HN1.out.r).mono ?_
    rintro e v2 ⟨rfl,r2,hrun,hg,hr⟩
    have HZ2:=hid hrun
    have HN2:=hid (HN1.out.step hg hr)
    have HCb:=hid (Kit.owns_grown HCa.out hg (by omega))
    have HOb:=hid (Kit.owns_grown HOa.out hg (by omega))
    clear hrun hg hr
    obtain ⟨v15,k15,hb15,hv15,hk15,hs15⟩:=HN2.out.r
    have q1:=hb15.cell 1
    simp at q1
    have hbl:=hv15.1
    have hk8:=HK8.out.1
    have HS15:=hid hs15
    clear hb15 hv15 hs15
    obtain ⟨b2,hb2⟩ : ∃ y,y = ((k15 : Int) - (k8 : Int) != x8):=⟨_,rfl⟩
    have HYb:=hid hb2
    go_wp2_with fail
    rw [← hb2]
    clear hb2 q1
    refine (HF.out r2 b2 v2 HN2.out.r).mono ?_
    rintro e v3 ⟨rfl,r3,hrun,hg,hr⟩
    have HZ3:=hid hrun
    have hN3:=HN2.out.step hg hr
    have HCc:=hid (Kit.owns_grown HCb.out hg (by omega))
    have HOc:=hid (Kit.owns_grown HOb.out hg (by omega))
    clear hrun hg hr
    have bM:=hN3.mx
    have bX:=hN3.rx
    have hzx5:=bX.sz
    obtain ⟨m0,m1,m2,m3,m4,m5,m6⟩:=bM.cells7
    obtain ⟨q0,q1,q2,q3,q4,q5,q6⟩:=bX.cells7
    have f0:=bX.frozen 0;have f1:=bX.frozen 1;have f2:=bX.frozen 2;have f3:=bX.frozen 3;have f4:=bX.frozen 4;have f5:=bX.frozen 5;have f6:=bX.frozen 6
    have HX5:=hid bX
    have HN3:=hid hN3
    clear bX bM hN3
    go_wp2
    clear m0 m1 m2 m3 m4 m5 m6 q0 q1 q2 q3 q4 q5 q6 f0 f1 f2 f3 f4 f5 f6
    have k7:=put7 HX5.out rfl (.int .i64 x1) (.int .i64 x2) (.int .i64 x3) (.int .i64 x9) (.int .i64 x10) (.slice cb l.length cc) (.slice ha j hc)
    have g7:=grown7 v3 w.heap.size (.int .i64 x1) (.int .i64 x2) (.int .i64 x3) (.int .i64 x9) (.int .i64 x10) (.slice cb l.length cc) (.slice ha j hc)
    have hrF:=HN3.out.r.off g7 (by omega)
    have hgF:=grown_off HN3.out.g g7 (Nat.le_refl _)
    have hCF:=L3.own_mono (base':=w.heap.size) (Kit.owns_grown HCc.out g7 (by omega)) (by omega)
    have hOF:=L3.own_mono (base':=w.heap.size) (Kit.owns_grown HOc.out g7 (by omega)) (by omega)
    obtain ⟨F,hF⟩ : ∃ F,F = (((((((v3.setCell ⟨w.heap.size,0,none⟩ (.int .i64 x1)).setCell ⟨w.heap.size,1,none⟩ (.int .i64 x2)).setCell ⟨w.heap.size,2,none⟩ (.int .i64 x3)).setCell ⟨w.heap.size,3,none⟩ (.int .i64 x9)).setCell ⟨w.heap.size,4,none⟩ (.int .i64 x10)).setCell ⟨w.heap.size,5,none⟩ (.slice cb l.length cc)).setCell ⟨w.heap.size,6,none⟩ (.slice ha j hc)):=⟨_,rfl⟩
    rw [← hF] at k7 hrF hgF hCF hOF ⊢
    clear g7 hF
    obtain ⟨q0,q1,q2,q3,q4,q5,q6⟩:=k7.cells7
    have hlh:=HI.out.1
    exact bodyPost_ret (v:=.agg #[.int .i64 x1,.int .i64 x2,.int .i64 x3,.int .i64 x9,.int .i64 x10,.slice cb l.length cc,.slice ha j hc]) (by simp [results,Tryz.results41,go_sem,q0,q1,q2,q3,q4,q5,q6]) rfl ⟨⟨x1,x2,x3,x9,x10,l,hs⟩,r3,cb,ha,l.length,j,cc,hc,rfl,⟨_,_,rfl,hCF,by show F.ownsRow _ _ _ _ hs.length _;rw [hlh];exact hOF,by have:=HL12.out;show l.length ≤ _;omega,by show hs.length ≤ _;omega⟩,Cf.me_run HU1.out HU2.out HU3.out HU4.out (by have h9:=HU5.out;rw [HY4.out,show (!(x4 != 1)) = (x4 == 1) by simp [bne]] at h9;exact h9) HU6.out HU7.out HU8.out HU9.out HU10.out HU11.out (by rw [Int.toNat_natCast];exact HU12.out) (Cf.listN_run HU14.out HRL.out) (Cf.none_run HZ1.out (by have h9:=HZ2.out;rw [HYa.out,show (!(z1 != 0)) = (z1 == 0) by simp [bne]] at h9;exact h9)) (fun _=>by have h9:=HZ3.out;rw [HYb.out,Cf.want_len HK8.out.2 HS15.out (by omega) (by omega)] at h9;exact h9) HZ3.out.1,hgF,hrF⟩
end Go.Proofs.YtnojgiflgmnjlaaGreatDoor
namespace Go.Proofs.YtnojgiflgmnjlaaGreatDoor
open Go Go.RowKit
structure Dst (w : World) (bs : List UInt8) (W : World) (t : List UInt8 × Int) (cs : Array Value) : Prop where
 b : Below w.heap.size w W
 r : RdD W (w.heap.size + 1) bs t
 rx : L3.BX W w.heap.size #[.int .i64 0,.int .i64 0,.slice none 0 0,.int .i64 0,.int .i64 0,.int .i64 0,.slice none 0 0,.slice none 0 0] 26
 cx : L3.BX W (w.heap.size + 1 + 1) cs 26
theorem Dst.step {w W W' : World} {bs : List UInt8} {t t' : List UInt8 × Int} {cs : Array Value} (h : Dst w bs W t cs) (hg : W.grownBy W' (some (w.heap.size + 1))) (hr : RdD W' (w.heap.size + 1) bs t') : Dst w bs W' t' cs :=
 ⟨nwB h.b hg ⟨Nat.le_succ _,h.b.size⟩,hr,h.rx.grown hg (fun e=>by (have:=Option.some.inj e;omega)),h.cx.grown hg (fun e=>by (have:=Option.some.inj e;omega))⟩
theorem Dst.belowB {w W W' : World} {B : Nat} {bs : List UInt8} {t : List UInt8 × Int} {cs : Array Value} (h : Dst w bs W t cs) (hb : Below B W W') (hB : w.heap.size + 1 + 1 < B) : Dst w bs W' t cs :=
 ⟨h.b.trans (hb.mono (by omega)),h.r.below hb (by omega),h.rx.below hb (by omega),h.cx.below hb hB⟩
theorem Dst.below {w W W' : World} {bs : List UInt8} {t : List UInt8 × Int} {cs : Array Value} (h : Dst w bs W t cs) (hb : Below W.heap.size W W') : Dst w bs W' t cs:=h.belowB hb h.cx.sz
theorem Dst.set {w W : World} {bs : List UInt8} {t : List UInt8 × Int} {cs : Array Value} (h : Dst w bs W t cs) (j : Nat) (u : Value) : Dst w bs (W.setCell ⟨w.heap.size + 1 + 1,j,none⟩ u) t (cs.setIfInBounds j u):=by
 have hg:=L3.set_grown W (w.heap.size + 1 + 1) j u
 exact ⟨nwB h.b hg ⟨by omega,h.b.size⟩,h.r.off hg (by omega),h.rx.grown hg (fun e=>by (have:=Option.some.inj e;omega)),h.cx.set j u⟩
theorem owns_kp {w w' : World} {base : Nat} {e : TypeId} {size : Nat} {v : Value} {n : Nat} {xs : List Value} (h : w.ownsRow base e size v n xs) (hk : ∀ k,base ≤ k → k < w.heap.size → w'.heap[k]? = w.heap[k]?) : w'.ownsRow base e size v n xs:=by
 refine ⟨h.1,?_⟩
 rcases h.2 with h2|⟨g,cap,cur,hv,hge,hh,r⟩
 ·exact .inl h2
 ·exact .inr ⟨g,cap,cur,hv,hge,(hk g hge (Array.getElem?_eq_some_iff.1 hh).1).trans hh,r⟩
structure Kp (lo : Nat) (w w' : World) : Prop where
 size : w.heap.size ≤ w'.heap.size
 block : ∀ k,lo ≤ k → k < w.heap.size → w'.heap[k]? = w.heap[k]?
theorem Kp.refl (lo : Nat) (w : World) : Kp lo w w:=⟨Nat.le_refl _,fun _ _ _=>rfl⟩
theorem Kp.below {lo B : Nat} {w w' w'' : World} (h : Kp lo w w') (hb : Below B w' w'') (hB : w.heap.size ≤ B) : Kp lo w w'' :=
 ⟨Nat.le_trans h.size hb.size,fun k h1 h2=>(hb.block k (by omega)).trans (h.block k h1 h2)⟩
theorem Kp.grown {lo : Nat} {w w' w'' : World} {row : Option Nat} (h : Kp lo w w') (hg : w'.grownBy w'' row) (hr : ∀ k,row = some k → k < lo ∨ w.heap.size ≤ k) : Kp lo w w'' :=
 ⟨Nat.le_trans h.size hg.size,fun k h1 h2=>(hg.block k (Nat.lt_of_lt_of_le h2 h.size) (fun e=>by rcases hr k e.symm with h|h <;> omega)).trans (h.block k h1 h2)⟩
theorem OMb.kp {w w' : World} {base : Nat} {cs : List Value} {m : Cf.Mb} (h : OMb w base cs m) (hk : Kp base w w') : OMb w' base cs m:=by
 obtain ⟨cv,hv,h1,h2,h3,h4⟩:=h
 exact ⟨cv,hv,h1,owns_kp h2 hk.block,owns_kp h3 hk.block,h4⟩
theorem OMs.kp {w w' : World} {base : Nat} {v : Value} {ms : List Cf.Mb} (h : OMs w base v ms) (hk : Kp base w w') : OMs w' base v ms:=by
 obtain ⟨rs,h1,h2⟩:=h
 exact ⟨rs,h1.mono fun _ _ k=>k.kp hk,owns_kp h2 hk.block⟩
structure Dsk (w : World) (bs : List UInt8) (W : World) (t : List UInt8 × Int) (cs : Array Value) (W1 : World) : Prop where
 d : Dst w bs W t cs
 k : Kp (w.heap.size + 1 + 1 + 1) W1 W
theorem Dsk.start {w W : World} {bs : List UInt8} {t : List UInt8 × Int} {cs : Array Value} (h : Dst w bs W t cs) : Dsk w bs W t cs W:=⟨h,Kp.refl _ _⟩
theorem Dsk.step {w W W' W1 : World} {bs : List UInt8} {t t' : List UInt8 × Int} {cs : Array Value} (h : Dsk w bs W t cs W1) (hg : W.grownBy W' (some (w.heap.size + 1))) (hr : RdD W' (w.heap.size + 1) bs t') : Dsk w bs W' t' cs W1 :=
 ⟨h.d.step hg hr,h.k.grown hg (fun k e=>.inl (by have:=Option.some.inj e;omega))⟩
theorem Dsk.belowB {w W W' W1 : World} {B : Nat} {bs : List UInt8} {t : List UInt8 × Int} {cs : Array Value} (h : Dsk w bs W t cs W1) (hb : Below B W W') (hB : w.heap.size + 1 + 1 < B) (hB2 : W1.heap.size ≤ B) : Dsk w bs W' t cs W1 :=
 ⟨h.d.belowB hb hB,h.k.below hb hB2⟩
theorem Dsk.below {w W W' W1 : World} {bs : List UInt8} {t : List UInt8 × Int} {cs : Array Value} (h : Dsk w bs W t cs W1) (hb : Below W.heap.size W W') : Dsk w bs W' t cs W1:=h.belowB hb h.d.cx.sz h.k.size
theorem Dsk.drew {w W W1 : World} {bs : List UInt8} {t : List UInt8 × Int} {cs : Array Value} (h : Dsk w bs W t cs W1) : Dsk w bs W.drew t cs W1:=h.below (Below.refl _ _).drew
theorem Dsk.set {w W W1 : World} {bs : List UInt8} {t : List UInt8 × Int} {cs : Array Value} (h : Dsk w bs W t cs W1) (j : Nat) (u : Value) : Dsk w bs (W.setCell ⟨w.heap.size + 1 + 1,j,none⟩ u) t (cs.setIfInBounds j u) W1 :=
 ⟨h.d.set j u,h.k.grown (L3.set_grown W (w.heap.size + 1 + 1) j u) (fun k e=>.inl (by have:=Option.some.inj e;omega))⟩
theorem Cf.left_run {bs : List UInt8} {k : Nat} {s t : List UInt8 × Int} (hs : s.1 = bs.drop k) (h : Cf.Run (Cf.want (!decide ((k : Int) < (bs.length : Int))) 44) s () t) : Cf.Run Cf.leftP s () t:=by
 have e : Cf.leftP s.1 = Cf.want (!decide ((k : Int) < (bs.length : Int))) 44 s.1:=by
  unfold Cf.leftP Cf.want
  rw [hs]
  by_cases hk : k < bs.length
  ·have h1 : ¬ bs.drop k = []:=by rw [List.drop_eq_nil_iff];omega
   have h2 : decide ((k : Int) < (bs.length : Int)) = true:=decide_eq_true (by omega)
   rw [if_neg h1,h2]
   rfl
  ·have h1 : bs.drop k = []:=by rw [List.drop_eq_nil_iff];omega
   have h2 : decide ((k : Int) < (bs.length : Int)) = false:=decide_eq_false (by omega)
   rw [if_pos h1,h2]
   rfl
 unfold Cf.Run at h ⊢
 rw [e]
 exact h
theorem Cf.cl_run {s t1 t2 t3 t4 t5 t6 t7 t8 t9 ta tb tc td te : List UInt8 × Int} {x1 mi ma ac th su : Int} {P : List L3.Cp.C} {fs ms : List Cf.Mb} (h1 : Cf.Run Cf.u4 s x1 t1) (h2 : Cf.Run (Cf.want (x1 == 3405691582) 40) t1 () t2) (h3 : Cf.Run Cf.u2 t2 mi t3) (h4 : Cf.Run Cf.u2 t3 ma t4) (h5 : Cf.Run (Cf.want (Cf.verB mi ma) 41) t4 () t5) (h6 : Cf.Run Cf.poolP t5 P t6)
  (h7 : Cf.Run Cf.u2 t6 ac t7) (h8 : Cf.Run Cf.u2 t7 th t8) (h9 : Cf.Run Cf.u2 t8 su t9) (ha : Cf.Run Cf.noneP t9 () ta) (hb : Cf.Run (Cf.listN Cf.fdP) ta fs tb) (hc : Cf.Run (Cf.listN (Cf.meP (Cf.cix P : Nat))) tb ms tc) (hd : Cf.Run Cf.noneP tc () td) (he : Cf.Run Cf.leftP td () te) : Cf.Run Cf.clP s ⟨mi,ma,P,ac,th,su,fs,ms⟩ te:=by
 unfold Cf.clP
 refine Cf.Run.bnd h1 ?_
 refine Cf.Run.bnd h2 ?_
 refine Cf.Run.bnd h3 ?_
 refine Cf.Run.bnd h4 ?_
 refine Cf.Run.bnd h5 ?_
 refine Cf.Run.bnd h6 ?_
 refine Cf.Run.bnd h7 ?_
 refine Cf.Run.bnd h8 ?_
 refine Cf.Run.bnd h9 ?_
 refine Cf.Run.bnd ha ?_
 refine Cf.Run.bnd hb ?_
 refine Cf.Run.bnd hc ?_
 refine Cf.Run.bnd hd ?_
 refine Cf.Run.bnd he ?_
 exact Cf.Run.ret _ _
theorem Cf.dc_err {bs : List UInt8} {c : Cf.Cl} {t : List UInt8 × Int} (h1 : ¬ 65536 < bs.length) (h : Cf.Run Cf.clP (bs,0) c t) (ht : t.2 ≠ 0) : Cf.DcIs bs Cf.K0 t.2:=by
 unfold Cf.DcIs
 rw [if_neg h1,show Cf.clP bs = .error t.2 from h.failed rfl ht]
 exact ⟨rfl,rfl⟩
theorem Cf.dc_ok {bs : List UInt8} {c : Cf.Cl} {t : List UInt8 × Int} (h : Cf.Run Cf.clP (bs,0) c t) (ht : t.2 = 0) : Cf.clP bs = .ok (c,t.1):=(h.alive ht).2
theorem Cf.dc_end {bs r : List UInt8} {c : Cf.Cl} {er : Int} (h1 : ¬ 65536 < bs.length) (h : Cf.clP bs = .ok (c,r)) (hc : Cf.ClIs c er) : (er = 0 → Cf.DcIs bs c 0) ∧ (er ≠ 0 → Cf.DcIs bs Cf.K0 er):=by
 constructor
 ·intro h3;subst h3;unfold Cf.DcIs;rw [if_neg h1,h];exact ⟨0,hc,by rw [if_pos rfl];exact ⟨rfl,rfl⟩⟩
 ·intro h3;unfold Cf.DcIs;rw [if_neg h1,h];exact ⟨er,hc,by rw [if_neg h3];exact ⟨rfl,rfl⟩⟩
theorem run_slice_low (b o len cap k : Nat) (w : World) (hk : k ≤ len) : (Instr.slice 22 (.slice (some ⟨b,o,none⟩) len cap) (some (.int .i64 (k : Int))) none none).run Tryz.prog w = .ok (.slice (some ⟨b,if cap = k then o else o + k,none⟩) (len - k) (cap - k)) w:=by
 by_cases h : cap = k
 ·subst h
  simp [Instr.slice,Instr.sliceBounds,Instr.sliceBound,go_sem,Tryz.underlying22,hk]
 ·rw [if_neg h]
  simp [Instr.slice,Instr.sliceBounds,Instr.sliceBound,go_sem,Tryz.underlying22,hk,h,Addr.add]
theorem run_slice_nil (a : Option Addr) (cap : Nat) (w : World) : (Instr.slice 22 (.slice a 0 cap) (some (.int .i64 ((0 : Nat) : Int))) none none).run Tryz.prog w = .ok (.slice (if cap = 0 then a else a.map (·.add 0)) 0 cap) w:=by
 by_cases h : cap = 0
 ·subst h;simp [Instr.slice,Instr.sliceBounds,Instr.sliceBound,go_sem,Tryz.underlying22]
 ·simp [Instr.slice,Instr.sliceBounds,Instr.sliceBound,go_sem,Tryz.underlying22,h]
theorem bs_slice {pb : Nat} {w : World} {a : Option Addr} {cap k : Nat} {bs : List UInt8} (h : L3.Bs pb w (.slice a bs.length cap) bs) (hk : k ≤ bs.length) :
  ∃ (a' : Option Addr) (c' : Nat),(∀ wx,(Instr.slice 22 (.slice a bs.length cap) (some (.int .i64 (k : Int))) none none).run Tryz.prog wx = .ok (.slice a' (bs.length - k) c') wx) ∧ L3.Bs pb w (.slice a' (bs.length - k) c') (bs.drop k):=by
 have hl:=h.1
 rcases h.2 with ⟨h0,a',cap',hs9⟩|⟨b,o,cap',hs9,hcap,hlim,hc⟩
 ·obtain ⟨rfl,-,rfl⟩:=Value.slice.inj hs9
  subst h0
  obtain rfl : k = 0:=by simpa using hk
  exact ⟨_,_,fun wx=>run_slice_nil a cap wx,by simp,.inl ⟨by simp,_,_,rfl⟩⟩
 ·obtain ⟨rfl,-,rfl⟩:=Value.slice.inj hs9
  refine ⟨_,_,fun wx=>run_slice_low b o bs.length cap k wx hk,by rw [List.length_drop];omega,?_⟩
  by_cases hck : cap = k
  ·have hz : bs.length - k = 0:=by omega
   exact .inl ⟨List.drop_eq_nil_of_le (by omega),_,_,by rw [hz]⟩
  ·rw [if_neg hck]
   exact .inr ⟨b,o + k,_,by rw [List.length_drop],by rw [List.length_drop];omega,hlim,fun i c hi=>by rw [Nat.add_assoc];exact hc (k + i) c (L3.drop_at hi)⟩
theorem OCl.kp {w w' : World} {base : Nat} {vs : Array Value} {c : Cf.Cl} (h : OCl w base vs c) (hk : Kp base w w') : OCl w' base vs c:=by
 obtain ⟨pv,fv,mv,h1,h2,h3,h4⟩:=h
 exact ⟨pv,fv,mv,h1,owns_kp h2 hk.block,h3.kp hk,h4.kp hk⟩
theorem dfield_lit (pb : Nat) (bs : List UInt8) (s : List UInt8 × Int) (w : World) (hr : RdD w pb bs s) :
  Calls Tryz.prog 40 #[.pointer (some ⟨pb,0,none⟩)] w fun e w'=>∃ a1 a2 a3 t,e = .returned (.agg #[.int .i64 a1,.int .i64 a2,.int .i64 a3,.int .i64 0,.int .i64 0,.slice none 0 0,.slice none 0 0]) ∧ Cf.Run Cf.fdP s ⟨a1,a2,a3,0,0,[],[]⟩ t ∧ w.grownBy w' (some pb) ∧ RdD w' pb bs t:=by
 refine (dfield_any pb bs s w hr).mono ?_
 rintro e w' ⟨⟨a1,a2,a3,a4,a5,co,hs⟩,t,rfl,⟨h1,h2,h3,h4⟩,hrun,hg,hr⟩
 dsimp only at h1 h2 h3 h4
 subst h1 h2 h3 h4
 exact ⟨a1,a2,a3,t,rfl,hrun,hg,hr⟩
theorem dmethod_lit (pb : Nat) (bs : List UInt8) (s : List UInt8 × Int) (Pl : List L3.Cp.C) (pa : Option Addr) (pc : Nat) (w : World) (hr : RdD w pb bs s) (hP : ∀ W,w.grownBy W (some pb) → Kit.IsS 5 W (.slice pa Pl.length pc) Pl.length (Pl.flatMap L3.cL)) :
  Calls Tryz.prog 41 #[.pointer (some ⟨pb,0,none⟩),.slice pa Pl.length pc] w fun e w'=>∃ a1 a2 a3 a4 a5 co hs t ca cn cc ha hn hc,e = .returned (.agg #[.int .i64 a1,.int .i64 a2,.int .i64 a3,.int .i64 a4,.int .i64 a5,.slice ca cn cc,.slice ha hn hc]) ∧
   OMb w' w.heap.size (mL ⟨a1,a2,a3,a4,a5,co,hs⟩ (.slice ca cn cc) (.slice ha hn hc)) ⟨a1,a2,a3,a4,a5,co,hs⟩ ∧ Cf.Run (Cf.meP (Cf.cix Pl : Nat)) s ⟨a1,a2,a3,a4,a5,co,hs⟩ t ∧ w.grownBy w' (some pb) ∧ RdD w' pb bs t:=by
 refine (dmethod_any pb bs s Pl pa pc w hr hP).mono ?_
 rintro e w' ⟨⟨a1,a2,a3,a4,a5,co,hs⟩,t,ca,ha,cn,hn,cc,hc,rfl,ho,hrun,hg,hr⟩
 exact ⟨a1,a2,a3,a4,a5,co,hs,t,ca,cn,cc,ha,hn,hc,rfl,ho,hrun,hg,hr⟩
theorem OMb.bare (w : World) (base : Nat) (a1 a2 a3 : Int) : OMb w base (mL ⟨a1,a2,a3,0,0,[],[]⟩ (.slice none 0 0) (.slice none 0 0)) ⟨a1,a2,a3,0,0,[],[]⟩ :=
 ⟨_,_,rfl,⟨rfl,.inl ⟨rfl,rfl⟩⟩,⟨rfl,.inl ⟨rfl,rfl⟩⟩,by simp,by simp⟩
theorem Dst.rd {w W : World} {bs : List UInt8} {t : List UInt8 × Int} {cs : Array Value} {sv : Value} {k e : Int} (h : Dst w bs W t cs) (hb : L3.BX W (w.heap.size + 1) #[sv,.int .i64 k,.int .i64 e] 65) (hv : L3.Bs (w.heap.size + 1) W sv bs) {kN : Nat} (hk : kN ≤ bs.length) (er : Int) :
  Dst w bs ((W.setCell ⟨w.heap.size + 1,1,none⟩ (.int .i64 (kN : Int))).setCell ⟨w.heap.size + 1,2,none⟩ (.int .i64 er)) (bs.drop kN,er) cs:=by
 have g1:=L3.set_grown W (w.heap.size + 1) 1 (.int .i64 (kN : Int))
 have g2:=L3.set_grown (W.setCell ⟨w.heap.size + 1,1,none⟩ (.int .i64 (kN : Int))) (w.heap.size + 1) 2 (.int .i64 er)
 have hn:=(hb.set 1 (.int .i64 (kN : Int))).set 2 (.int .i64 er)
 simp only [List.setIfInBounds_toArray,List.set_cons_zero,List.set_cons_succ] at hn
 exact ⟨nwB (nwB h.b g1 ⟨Nat.le_succ _,h.b.size⟩) g2 ⟨Nat.le_succ _,by rw [World.size_setCell];exact h.b.size⟩,⟨sv,kN,hn,bs_grown (bs_grown hv hb.sz g1) (by rw [World.size_setCell];exact hb.sz) g2,hk,rfl⟩,(h.rx.grown g1 (fun e=>by (have:=Option.some.inj e;omega))).grown g2 (fun e=>by (have:=Option.some.inj e;omega)),(h.cx.grown g1 (fun e=>by (have:=Option.some.inj e;omega))).grown g2 (fun e=>by (have:=Option.some.inj e;omega))⟩
theorem bs_low {w w' : World} {pb r : Nat} {v : Value} {bs : List UInt8} (h : L3.Bs pb w v bs) (hg : w.grownBy w' (some r)) (hp : pb ≤ r) (hz : pb ≤ w.heap.size) : L3.Bs pb w' v bs :=
 h.same fun b o hl=>World.cell?_of_block (hg.block b (by omega) (fun e=>by have:=Option.some.inj e;omega))
theorem Cf.pool_take {bs : List UInt8} {k : Nat} {t : List UInt8 × Int} {o : List L3.Cp.C × Int × Int} (ht : t.2 = 0) (hs : t.1 = bs.drop k) (hk : k ≤ bs.length) (htk : L3.tkOut (bs.drop k) = o) :
  ∃ (kN : Nat) (er : Int),(k : Int) + o.2.1 = (kN : Int) ∧ kN ≤ bs.length ∧ o.2.2 = er ∧ Cf.Run Cf.poolP t o.1 (bs.drop kN,er):=by
 subst htk
 unfold L3.tkOut
 cases hx : L3.plP (bs.drop k) with
 | error er=>exact ⟨k,er,by simp,hk,rfl,fun h=>absurd ht h,fun _=>.inl ⟨er,by unfold Cf.poolP;rw [hs];exact hx,L3.plP_err hx,rfl⟩⟩
 | ok y =>
  obtain ⟨l,r⟩:=y
  obtain ⟨j,hj,rfl⟩:=plP_suf hx
  have hj2:=hj
  rw [List.length_drop] at hj2
  refine ⟨k + j,0,?_,by omega,rfl,fun h=>absurd ht h,fun _=>.inr ⟨by unfold Cf.poolP;rw [hs,hx,List.drop_drop],rfl⟩⟩
  show (k : Int) + (((bs.drop k).length : Int) - (((bs.drop k).drop j).length : Int)) = _
  rw [List.length_drop (i:=j),List.length_drop]
  omega
def RdPost (bs : List UInt8) (w : World) (e : Ending) (w' : World) : Prop :=
 ∃ c er vs,Cf.DcIs bs c er ∧ e = .returned (.tuple #[.agg vs,.int .i64 er]) ∧ ClR w' vs c ∧ Below w.heap.size w w'
end Go.Proofs.YtnojgiflgmnjlaaGreatDoor
namespace Go.Proofs.YtnojgiflgmnjlaaGreatDoor
open Go.RowKit
theorem hdE_no {P : List L3.Cp.C} {l : List L1.Op1.Ins} {n : Nat} {h : Cf.Hn} (hn : ¬ (h.f < h.t ∧ Cf.begB l h.f = true ∧ Cf.begB l h.a = true ∧ (Cf.begB l h.t = true ∨ h.t = (n : Int)))) : Cf.hdE P l n h = 46:=by
 unfold Cf.hdE
 rw [if_neg hn]
theorem hdE_yes {P : List L3.Cp.C} {l : List L1.Op1.Ins} {n : Nat} {h : Cf.Hn} (hn : h.f < h.t ∧ Cf.begB l h.f = true ∧ Cf.begB l h.a = true ∧ (Cf.begB l h.t = true ∨ h.t = (n : Int))) : Cf.hdE P l n h = if h.y = 0 then 0 else Cf.claE P h.y:=by
 unfold Cf.hdE
 rw [if_pos hn]
inductive HdC (f t n : Int) (b1 b2 b3 : Bool) : Prop
 | a (h : t ≤ f) : HdC f t n b1 b2 b3
 | b (h : f < t) (h1 : b1 = false) : HdC f t n b1 b2 b3
 | c (h : f < t) (h1 : b1 = true) (h2 : b2 = false) : HdC f t n b1 b2 b3
 | d (h : f < t) (h1 : b1 = true) (h2 : b2 = true) (h3 : b3 = false) (h4 : t ≠ n) : HdC f t n b1 b2 b3
 | e (h : f < t) (h1 : b1 = true) (h2 : b2 = true) (h3 : b3 = true) : HdC f t n b1 b2 b3
 | f (h : f < t) (h1 : b1 = true) (h2 : b2 = true) (h3 : b3 = false) (h4 : t = n) : HdC f t n b1 b2 b3
theorem HdC.all (f t n : Int) (b1 b2 b3 : Bool) : HdC f t n b1 b2 b3:=by
 by_cases h : f < t
 ·cases b1
  ·exact .b h rfl
  ·cases b2
   ·exact .c h rfl rfl
   ·cases b3
    ·by_cases h4 : t = n
     ·exact .f h rfl rfl rfl h4
     ·exact .d h rfl rfl rfl h4
    ·exact .e h rfl rfl rfl
 ·exact .a (by omega)
set_option maxHeartbeats 4000000 in
theorem rcode_any (c : Cf.Cl) (vs : Array Value) (m : Cf.Mb) (cv hv : Value) (w : World) (h : ClR w vs c) (hB : L3.Bs w.heap.size w cv m.code) (hH : Kit.IsS 4 w hv m.hs.length (m.hs.flatMap hL)) (hc : m.code.length ≤ 140737488355328) :
  Calls Tryz.prog 119 #[.agg vs,mbV m cv hv] w fun e w'=>∃ er,Cf.CoIs c.pool m er ∧ e = .returned (.int .i64 er) ∧ Below w.heap.size w w':=by
 have HD:=hid (fun W (k : Below w.heap.size w W)=>L1.rdecode_any m.code cv W (isB_of_bs ((hB.below k (Nat.le_refl _)).mono k.size) hc))
 have HCl0:=fun i W (k : Below w.heap.size w W)=>rclass_any c i vs W (h.below k (Nat.le_refl _))
 have HO:=hid (fun er l d (h1 : L1.Op1.DecOut m.code l d) h2=>(⟨l,d,h1,h2⟩ : Cf.CoIs c.pool m er))
 have HV:=hid (fun W (k : Below w.heap.size w W)=>hH.below k (Nat.le_refl _))
 obtain ⟨pv,fv,mv,rfl,hp,hf,hm⟩:=h
 obtain ⟨pa,pc,rfl⟩:=hp.len
 obtain ⟨fa,fc,rfl⟩:=hf.len
 obtain ⟨ma,mc,rfl⟩:=hm.len
 obtain ⟨xa,xc,rfl⟩:=hB.len
 obtain ⟨ya,yc,rfl⟩:=hH.len
 have hhl:=hH.2.1
 have HCl:=hid HCl0
 obtain ⟨ac,nm,ds,st,lc,co,hs9⟩:=m
 unfold mbV
 dsimp only at HD HO HV hhl ⊢
 unfold L1.DecPost at HD
 clear hp hf hm hB hH hc HCl0
 by_cases h64 : 64 < hs9.length
 ·have d64 : decide (64 < (hs9.length : Int)) = true:=by simp;omega
  have d65 : decide (64 < hs9.length) = true:=by simpa using h64
  go_enter Tryz.func119,Tryz.ntmps119
  go_wp2_with (go_at_call 159;refine (HD.out _ BLw).mono ?_;rintro e w1 ⟨lv,l,d,rfl,hd,ho,hb1⟩;obtain ⟨la,lc2,rfl⟩:=L3.own_form ho;obtain ⟨bP,bM,hzM,B1⟩:=boxes2 hb1;have m5:=bM.cell 5;have m6:=bM.cell 6;simp at m5 m6;have HDd:=hid hd;by_cases hz : d = 0;all_goals (first|(subst hz;have hin:=dec_in hd rfl;have hll:=hin.2.1;have hcl:=hin.2.2;have HIS:=hid (Kit.isS_of_owns ho (by omega));clear hd ho hin)|(have hdd : (d != 0) = true:=(by simpa using hz);have HZ:=hid hz;clear hz hd ho)))
  ·go_ret
   exact ⟨3,HO.out 3 l 0 HDd.out (by rw [if_neg (by decide),if_pos h64]),rfl,B1⟩
  ·go_ret
   exact ⟨d,HO.out d l d HDd.out (by rw [if_pos HZ.out]),rfl,B1⟩
 ·have d64 : decide (64 < (hs9.length : Int)) = false:=by simp;omega
  have d65 : decide (64 < hs9.length) = false:=by simpa using h64
  have H64:=hid h64
  go_enter Tryz.func119,Tryz.ntmps119
  go_wp2_with (go_at_call 159;refine (HD.out _ BLw).mono ?_;rintro e w1 ⟨lv,l,d,rfl,hd,ho,hb1⟩;obtain ⟨la,lc2,rfl⟩:=L3.own_form ho;obtain ⟨bP,bM,hzM,B1⟩:=boxes2 hb1;have m5:=bM.cell 5;have m6:=bM.cell 6;simp at m5 m6;have HDd:=hid hd;by_cases hz : d = 0;all_goals (first|(subst hz;have hin:=dec_in hd rfl;have hll:=hin.2.1;have hcl:=hin.2.2;have HIS:=hid (Kit.isS_of_owns ho (by omega));clear hd ho hin)|(have hdd : (d != 0) = true:=(by simpa using hz);have HZ:=hid hz;clear hz hd ho)))
  rotate_left 1
  ·go_ret
   exact ⟨d,HO.out d l d HDd.out (by rw [if_pos HZ.out]),rfl,B1⟩
  have BP:=hid bP
  have BM:=hid bM
  have BB:=hid B1
  clear bP bM B1 hb1 hzM
  go_loopw [7] (fun i wr=>∃ k : Nat,k ≤ hs9.length ∧ i = .int .i64 k ∧ Below w1.heap.size w1 wr ∧ Hid (∀ j,j < k → Cf.HnIs c.pool l co.length hs9 j 0)) (fun i _=>hs9.length - (intOf i).toNat)
  case atStart=>exact ⟨0,by omega,rfl,Below.refl _ _,fun j hj=>by omega⟩
  case round =>
   obtain ⟨k,hk,rfl,hJ,HAll⟩:=hrel
   have HJ:=hid hJ
   have hBr : Below w.heap.size w wr:=belows BB.out hJ BB.out.size
   have hBM:=BM.out.below hJ BM.out.sz
   have hBP:=BP.out.below hJ BP.out.sz
   have hz1:=hBM.sz
   clear m5 m6
   have m5:=hBM.cell 5
   have m6:=hBM.cell 6
   simp at m5 m6
   by_cases hlt : k < hs9.length
   ·obtain ⟨⟨f,t,a9,y⟩,hx⟩ : ∃ x,hs9[k]? = some x:=⟨hs9[k],List.getElem?_eq_getElem hlt⟩
    obtain ⟨b,o,cap',hv2,hbb,c0,c1,c2,c3⟩:=h_at (HV.out wr hBr) hx
    obtain ⟨rfl,-,rfl⟩:=Value.slice.inj hv2
    have hki : (k : Int) < (hs9.length : Int):=by omega
    dsimp only at c0 c1 c2 c3
    have HR0:=hid (show Cf.HnIs c.pool l co.length hs9 k (Cf.hdE c.pool l co.length ⟨f,t,a9,y⟩) from ⟨_,hx,rfl⟩)
    have HB0':=fun p W (q : Below wr.heap.size wr W)=>rbegins_any l p (.slice la l.length lc2) W ((HIS.out.below hJ (Nat.le_refl _)).below q (Nat.le_refl _))
    have hcase:=HdC.all f t co.length (Cf.begB l f) (Cf.begB l a9) (Cf.begB l t)
    have hyes:=@hdE_yes c.pool l co.length ⟨f,t,a9,y⟩
    have hno:=@hdE_no c.pool l co.length ⟨f,t,a9,y⟩
    have hb1':=HB0' f
    have hb2':=HB0' a9
    have hb3':=HB0' t
    obtain ⟨b1,hb1⟩ : ∃ b,b = Cf.begB l f:=⟨_,rfl⟩
    obtain ⟨b2,hb2⟩ : ∃ b,b = Cf.begB l a9:=⟨_,rfl⟩
    obtain ⟨b3,hb3⟩ : ∃ b,b = Cf.begB l t:=⟨_,rfl⟩
    dsimp only at hyes hno
    rw [← hb1] at hcase hyes hno hb1'
    rw [← hb2] at hcase hyes hno hb2'
    rw [← hb3] at hcase hyes hno hb3'
    clear hb1 hb2 hb3 HB0' hv2 hx hJ
    have bP8:=hBP
    have q0:=hBP.cell 0;have q1:=hBP.cell 1;have q2:=hBP.cell 2;have q3:=hBP.cell 3;have q4:=hBP.cell 4;have q5:=hBP.cell 5;have q6:=hBP.cell 6;have q7:=hBP.cell 7
    simp at q0 q1 q2 q3 q4 q5 q6 q7
    have hzp:=hBP.sz
    have HB1:=hid hb1'
    have HB2:=hid hb2'
    have HB3:=hid hb3'
    clear hBM hBP bP8 hb1' hb2' hb3'
    rcases hcase with h|⟨h,rfl⟩|⟨h,rfl,rfl⟩|⟨h,rfl,rfl,rfl,h4⟩|⟨h,rfl,rfl,rfl⟩|⟨h,rfl,rfl,rfl,h4⟩
    ·have HX:=hid (hno (by rintro ⟨h1,-⟩;omega))
     clear hyes hno
     (go_wp2_with (go_at_call 160;first|((with_reducible refine (HB1.out _ ?_).mono ?_);exact BLw;rintro e w' ⟨rfl,rfl⟩)|((with_reducible refine (HB2.out _ ?_).mono ?_);exact BLw;rintro e w' ⟨rfl,rfl⟩)|((with_reducible refine (HB3.out _ ?_).mono ?_);exact BLw;rintro e w' ⟨rfl,rfl⟩));go_ret;exact ⟨46,HO.out 46 l 0 HDd.out (by rw [if_neg (by decide),if_neg H64.out];exact Cf.FstR.at HAll.out hlt (by have:=HR0.out;rwa [HX.out] at this) (by decide)),rfl,BLw⟩)
    ·have HX:=hid (hno (by simp))
     have hn : ¬ t ≤ f:=by omega
     clear hyes hno
     (go_wp2_with (go_at_call 160;first|((with_reducible refine (HB1.out _ ?_).mono ?_);exact BLw;rintro e w' ⟨rfl,rfl⟩)|((with_reducible refine (HB2.out _ ?_).mono ?_);exact BLw;rintro e w' ⟨rfl,rfl⟩)|((with_reducible refine (HB3.out _ ?_).mono ?_);exact BLw;rintro e w' ⟨rfl,rfl⟩));go_ret;exact ⟨46,HO.out 46 l 0 HDd.out (by rw [if_neg (by decide),if_neg H64.out];exact Cf.FstR.at HAll.out hlt (by have:=HR0.out;rwa [HX.out] at this) (by decide)),rfl,BLw⟩)
    ·have HX:=hid (hno (by simp))
     have hn : ¬ t ≤ f:=by omega
     clear hyes hno
     (go_wp2_with (go_at_call 160;first|((with_reducible refine (HB1.out _ ?_).mono ?_);exact BLw;rintro e w' ⟨rfl,rfl⟩)|((with_reducible refine (HB2.out _ ?_).mono ?_);exact BLw;rintro e w' ⟨rfl,rfl⟩)|((with_reducible refine (HB3.out _ ?_).mono ?_);exact BLw;rintro e w' ⟨rfl,rfl⟩));go_ret;exact ⟨46,HO.out 46 l 0 HDd.out (by rw [if_neg (by decide),if_neg H64.out];exact Cf.FstR.at HAll.out hlt (by have:=HR0.out;rwa [HX.out] at this) (by decide)),rfl,BLw⟩)
    ·have HX:=hid (hno (by simp [h4]))
     have hn : ¬ t ≤ f:=by omega
     have h4d : (t != (co.length : Int)) = true:=by simpa using h4
     clear hyes hno
     (go_wp2_with (go_at_call 160;first|((with_reducible refine (HB1.out _ ?_).mono ?_);exact BLw;rintro e w' ⟨rfl,rfl⟩)|((with_reducible refine (HB2.out _ ?_).mono ?_);exact BLw;rintro e w' ⟨rfl,rfl⟩)|((with_reducible refine (HB3.out _ ?_).mono ?_);exact BLw;rintro e w' ⟨rfl,rfl⟩));go_ret;exact ⟨46,HO.out 46 l 0 HDd.out (by rw [if_neg (by decide),if_neg H64.out];exact Cf.FstR.at HAll.out hlt (by have:=HR0.out;rwa [HX.out] at this) (by decide)),rfl,BLw⟩)
    ·have hx1:=hyes ⟨h,rfl,rfl,.inl rfl⟩
     have hn : ¬ t ≤ f:=by omega
     clear hyes hno
     (by_cases hy : y = 0;(·subst hy;rw [if_pos rfl] at hx1;have HX:=hid hx1;clear hx1;(go_wp2_with (go_at_call 160;first|((with_reducible refine (HB1.out _ ?_).mono ?_);exact BLw;rintro e w' ⟨rfl,rfl⟩)|((with_reducible refine (HB2.out _ ?_).mono ?_);exact BLw;rintro e w' ⟨rfl,rfl⟩)|((with_reducible refine (HB3.out _ ?_).mono ?_);exact BLw;rintro e w' ⟨rfl,rfl⟩)));go_roundw;(case rel=>exact ⟨k + 1,by omega,by go_num,(HJ.out.alloc HJ.out.size _),(fun j hj=>by (by_cases e : j = k;(·subst e;have:=HR0.out;rwa [HX.out] at this);(·exact HAll.out j (by omega))))⟩);(case measure=>simp [intOf];omega));(·rw [if_neg hy] at hx1;have hyd : (y == 0) = false:=(by simpa using hy);have hcl0:=HCl.out y;obtain ⟨ce,hce⟩ : ∃ ce,ce = Cf.claE c.pool y:=⟨_,rfl⟩;rw [← hce] at hx1 hcl0;have HX:=hid hx1;have HC2:=hid hcl0;clear hx1 hcl0 hce hy;by_cases hz : ce = 0;(·subst hz;(go_wp2_with (first|(go_at_call 160;first|((with_reducible refine (HB1.out _ ?_).mono ?_);exact BLw;rintro e w' ⟨rfl,rfl⟩)|((with_reducible refine (HB2.out _ ?_).mono ?_);exact BLw;rintro e w' ⟨rfl,rfl⟩)|((with_reducible refine (HB3.out _ ?_).mono ?_);exact BLw;rintro e w' ⟨rfl,rfl⟩))|(go_at_call 58;refine (HC2.out _ BLw).mono ?_;rintro e W2 ⟨rfl,hb2⟩;obtain ⟨bH,hzH,B2⟩:=belows1 hb2)));go_roundw;(case rel=>exact ⟨k + 1,by omega,by go_num,belows HJ.out B2 HJ.out.size,(fun j hj=>by (by_cases e : j = k;(·subst e;have:=HR0.out;rwa [HX.out] at this);(·exact HAll.out j (by omega))))⟩);(case measure=>simp [intOf];omega));(·have hzd : (ce != 0) = true:=(by simpa using hz);have HZ:=hid hz;clear hz;(go_wp2_with (first|(go_at_call 160;first|((with_reducible refine (HB1.out _ ?_).mono ?_);exact BLw;rintro e w' ⟨rfl,rfl⟩)|((with_reducible refine (HB2.out _ ?_).mono ?_);exact BLw;rintro e w' ⟨rfl,rfl⟩)|((with_reducible refine (HB3.out _ ?_).mono ?_);exact BLw;rintro e w' ⟨rfl,rfl⟩))|(go_at_call 58;refine (HC2.out _ BLw).mono ?_;rintro e W2 ⟨rfl,hb2⟩;obtain ⟨bH,hzH,B2⟩:=belows1 hb2)));go_ret;exact ⟨ce,HO.out ce l 0 HDd.out (by rw [if_neg (by decide),if_neg H64.out];exact Cf.FstR.at HAll.out hlt (by have:=HR0.out;rwa [HX.out] at this) HZ.out),rfl,belows hBr B2 hBr.size⟩)))
    ·have hx1:=hyes ⟨h,rfl,rfl,.inr h4⟩
     have hn : ¬ t ≤ f:=by omega
     have h4d : (t != (co.length : Int)) = false:=by simpa using h4
     clear hyes hno h4
     (by_cases hy : y = 0;(·subst hy;rw [if_pos rfl] at hx1;have HX:=hid hx1;clear hx1;(go_wp2_with (go_at_call 160;first|((with_reducible refine (HB1.out _ ?_).mono ?_);exact BLw;rintro e w' ⟨rfl,rfl⟩)|((with_reducible refine (HB2.out _ ?_).mono ?_);exact BLw;rintro e w' ⟨rfl,rfl⟩)|((with_reducible refine (HB3.out _ ?_).mono ?_);exact BLw;rintro e w' ⟨rfl,rfl⟩)));go_roundw;(case rel=>exact ⟨k + 1,by omega,by go_num,(HJ.out.alloc HJ.out.size _),(fun j hj=>by (by_cases e : j = k;(·subst e;have:=HR0.out;rwa [HX.out] at this);(·exact HAll.out j (by omega))))⟩);(case measure=>simp [intOf];omega));(·rw [if_neg hy] at hx1;have hyd : (y == 0) = false:=(by simpa using hy);have hcl0:=HCl.out y;obtain ⟨ce,hce⟩ : ∃ ce,ce = Cf.claE c.pool y:=⟨_,rfl⟩;rw [← hce] at hx1 hcl0;have HX:=hid hx1;have HC2:=hid hcl0;clear hx1 hcl0 hce hy;by_cases hz : ce = 0;(·subst hz;(go_wp2_with (first|(go_at_call 160;first|((with_reducible refine (HB1.out _ ?_).mono ?_);exact BLw;rintro e w' ⟨rfl,rfl⟩)|((with_reducible refine (HB2.out _ ?_).mono ?_);exact BLw;rintro e w' ⟨rfl,rfl⟩)|((with_reducible refine (HB3.out _ ?_).mono ?_);exact BLw;rintro e w' ⟨rfl,rfl⟩))|(go_at_call 58;refine (HC2.out _ BLw).mono ?_;rintro e W2 ⟨rfl,hb2⟩;obtain ⟨bH,hzH,B2⟩:=belows1 hb2)));go_roundw;(case rel=>exact ⟨k + 1,by omega,by go_num,belows HJ.out B2 HJ.out.size,(fun j hj=>by (by_cases e : j = k;(·subst e;have:=HR0.out;rwa [HX.out] at this);(·exact HAll.out j (by omega))))⟩);(case measure=>simp [intOf];omega));(·have hzd : (ce != 0) = true:=(by simpa using hz);have HZ:=hid hz;clear hz;(go_wp2_with (first|(go_at_call 160;first|((with_reducible refine (HB1.out _ ?_).mono ?_);exact BLw;rintro e w' ⟨rfl,rfl⟩)|((with_reducible refine (HB2.out _ ?_).mono ?_);exact BLw;rintro e w' ⟨rfl,rfl⟩)|((with_reducible refine (HB3.out _ ?_).mono ?_);exact BLw;rintro e w' ⟨rfl,rfl⟩))|(go_at_call 58;refine (HC2.out _ BLw).mono ?_;rintro e W2 ⟨rfl,hb2⟩;obtain ⟨bH,hzH,B2⟩:=belows1 hb2)));go_ret;exact ⟨ce,HO.out ce l 0 HDd.out (by rw [if_neg (by decide),if_neg H64.out];exact Cf.FstR.at HAll.out hlt (by have:=HR0.out;rwa [HX.out] at this) HZ.out),rfl,belows hBr B2 hBr.size⟩)))
   ·obtain rfl : k = hs9.length:=by omega
    have hki : ¬ ((hs9.length : Int) < (hs9.length : Int)):=by omega
    go_wp2
    go_ret
    exact ⟨0,HO.out 0 l 0 HDd.out (by rw [if_neg (by decide),if_neg H64.out];exact Cf.FstR.all HAll.out),rfl,hBr⟩
end Go.Proofs.YtnojgiflgmnjlaaGreatDoor
