/- Own texts for the claim, part 14. -/
import Derived.Test.YtnojgiflgmnjlaaGreatDoorZD13
set_option maxRecDepth 100000
namespace Go.Proofs.YtnojgiflgmnjlaaGreatDoor
open Go.RowKit
def VMb (w : World) (base : Nat) (v : Value) (m : Cf.Mb) : Prop:=∃ cs : List Value,v = .agg cs.toArray ∧ OMb w base cs m
set_option maxHeartbeats 400000 in
theorem field_any (pb : Nat) (code : Int) (bs : List UInt8) (w : World) (hr : Rdr w pb code bs) :
  Calls Tryz.prog 137 #[.pointer (some ⟨pb,0,none⟩)] w (RP pb code (Cf.fdP bs) VMb w):=by
 have HM:=hid (fun bs W (h : Rdr W pb code bs)=>mem_any pb code bs W h)
 have HN:=hid (fun bs W (h : Rdr W pb code bs)=>none_any pb code bs W h)
 have HR:=hr
 have HG:=grown_refl' w (some pb)
 have hp0:=hr.sz
 obtain ⟨X,HE⟩ : ∃ X,Cf.fdP bs = X:=⟨_,rfl⟩
 rw [HE]
 unfold Cf.fdP at HE
 unfold RP L3.pan VM0 mbV0 at HM
 unfold RP L3.pan VU at HN
 unfold RP L3.pan VMb
 clear hr
 go_enter Tryz.func137,Tryz.ntmps137
 go_wp2_with (first|(go_at_call 167;refine (HM.out _ _ (by first|exact HR|exact HR.below (n:=pb + 1) BLw (Nat.lt_succ_self pb))).mono ?_;rintro e W h;rcases h with ⟨er,hx,rfl,hg⟩|⟨m,r,v,hx,rfl,⟨rfl,hm1,hm2,hm3,hm4⟩,hs⟩;all_goals (first|(rw [Cf.bnd_err hx] at HE;have HG : w.grownBy W (some pb):=L3.grown_trans GRw hg)|(rw [Cf.bnd_ok hx] at HE;have HG : w.grownBy W (some pb):=L3.grown_trans GRw hs.1;have HR:=hs.2;have hz:=HG.size;have hp:=HR.sz;have HA:=L3.BX.grown (L3.BX.new w #[.int .i64 0,.int .i64 0,.int .i64 0,.int .i64 0,.int .i64 0,.slice none 0 0,.slice none 0 0] 42) hs.1 (fun e=>by (have:=Option.some.inj e;omega));have hzA:=HA.sz));clear hx)|((go_at_call 135;refine (HN.out _ _ (by first|exact HR|exact HR.below (n:=pb + 1) BLw (Nat.lt_succ_self pb))).mono ?_;rintro e W h;rcases h with ⟨er,hx,rfl,hg⟩|⟨u,r,v,hx,rfl,rfl,hs⟩;all_goals (first|(rw [Cf.bnd_err hx] at HE;have HG : w.grownBy W (some pb):=L3.grown_trans GRw hg)|(rw [Cf.bnd_ok hx] at HE;have HG : w.grownBy W (some pb):=L3.grown_trans GRw hs.1;have HR:=hs.2;have hz:=HG.size;have hp:=HR.sz));clear hx);all_goals (try (have HB:=L3.BX.grown (L3.BX.new _ _ _) hs.1 (fun e=>by (have:=Option.some.inj e;omega));have HA:=L3.BX.grown (L3.BX.below HA ((Below.refl _ _).alloc (Nat.le_refl _) _) HA.sz) hs.1 (fun e=>by (have:=Option.some.inj e;omega));(obtain ⟨a0,a1,a2,a3,a4,a5,a6⟩:=HA.cells7;have fa0:=HA.frozen 0;have fa1:=HA.frozen 1;have fa2:=HA.frozen 2;have fa3:=HA.frozen 3;have fa4:=HA.frozen 4;have fa5:=HA.frozen 5;have fa6:=HA.frozen 6);(obtain ⟨b0,b1,b2,b3,b4,b5,b6⟩:=HB.cells7;have fb0:=HB.frozen 0;have fb1:=HB.frozen 1;have fb2:=HB.frozen 2;have fb3:=HB.frozen 3;have fb4:=HB.frozen 4;have fb5:=HB.frozen 5;have fb6:=HB.frozen 6)))))
 ·(exact ⟨rfl,.inl ⟨_,HE.symm,rfl,HG⟩⟩)
 ·(exact ⟨rfl,.inl ⟨_,HE.symm,rfl,HG⟩⟩)
 ·refine bodyPost_ret (v:=.agg #[.int .i64 m.ac,.int .i64 m.nm,.int .i64 m.ds,.int .i64 0,.int .i64 0,.slice none 0 0,.slice none 0 0]) (by simp [results,Tryz.results137,go_sem,a0,a1,a2,a3,a4,a5,a6]) rfl (.inr ⟨_,_,_,HE.symm,rfl,⟨[.int .i64 m.ac,.int .i64 m.nm,.int .i64 m.ds,.int .i64 0,.int .i64 0,.slice none 0 0,.slice none 0 0],rfl,.slice none 0 0,.slice none 0 0,by rw [hm1,hm2],⟨by rw [hm3];rfl,.inl ⟨rfl,by rw [hm3];rfl⟩⟩,⟨by rw [hm4];rfl,.inl ⟨rfl,by rw [hm4];rfl⟩⟩,by rw [hm3];simp,by rw [hm4];simp⟩,GRw,HR.keep BLw⟩)
theorem Rdr.cells {w : World} {pb : Nat} {code : Int} {bs : List UInt8} (h : Rdr w pb code bs) : ∃ a cap,w.cell? ⟨pb,0,none⟩ = some (.slice a bs.length cap) ∧ w.cell? ⟨pb,1,none⟩ = some (.int .i64 code):=by
 obtain ⟨v,h,k⟩:=h
 obtain ⟨a,cap,rfl⟩:=k.len
 exact ⟨a,cap,by simp [World.cell?,h],by simp [World.cell?,h]⟩
theorem Rdr.len {w : World} {pb : Nat} {code : Int} {bs : List UInt8} (h : Rdr w pb code bs) : bs.length ≤ 281474976710656:=by
 obtain ⟨v,h,k⟩:=h
 exact k.1
theorem Cf.u4_range {bs r : List UInt8} {n : Int} (h : Cf.u4 bs = .ok (n,r)) : 0 ≤ n ∧ n < 4294967296:=by
 unfold Cf.u4 at h
 cases h1 : Cf.u2 bs with
 | error e=>rw [Cf.bnd_err h1] at h;cases h
 | ok y =>
  obtain ⟨a,l⟩:=y
  rw [Cf.bnd_ok h1] at h
  have:=Cf.u2_range h1
  cases h2 : Cf.u2 l with
  | error e=>rw [Cf.bnd_err h2] at h;cases h
  | ok y =>
   obtain ⟨b,l2⟩:=y
   rw [Cf.bnd_ok h2] at h
   have:=Cf.u2_range h2
   obtain ⟨rfl,-⟩:=Prod.mk.inj (Except.ok.inj h)
   omega
theorem Cf.want_yes' {α : Type} {t : Bool} {er : Int} {f : Unit → Cf.Ps α} {l : List UInt8} (h : t = true) : Cf.bnd (Cf.want t er) f l = f () l:=by subst h;rfl
theorem Cf.want_no' {α : Type} {t : Bool} {er : Int} {f : Unit → Cf.Ps α} {l : List UInt8} (h : t = false) : Cf.bnd (Cf.want t er) f l = .error er:=by subst h;rfl
theorem Cf.take_len {k : Nat} {bs cl r : List UInt8} (h : Cf.takeP k bs = .ok (cl,r)) : cl.length = k:=by
 unfold Cf.takeP at h
 split at h
 ·obtain ⟨rfl,-⟩:=Prod.mk.inj (Except.ok.inj h)
  rw [List.length_take];omega
 ·cases h
theorem want_any (pb : Nat) (t : Bool) (er : Int) (w : World) : Calls Tryz.prog 131 #[.pointer (some ⟨pb,0,none⟩),.bool t,.int .i64 er] w fun e w'=>(t = false ∧ e = L3.pan er ∧ w = w') ∨ (t = true ∧ e = .returned (.tuple #[]) ∧ w = w'):=by
 cases t with
 | false=>exact (want_no pb er w).mono fun _ _ h=>.inl ⟨rfl,h⟩
 | true=>exact (want_yes pb er w).mono fun _ _ h=>.inr ⟨rfl,h⟩
set_option maxHeartbeats 1000000 in
theorem method_any (pb : Nat) (code : Int) (bs : List UInt8) (w : World) (hr : Rdr w pb code bs) :
  Calls Tryz.prog 138 #[.pointer (some ⟨pb,0,none⟩)] w (RP pb code (Cf.meP code bs) VMb w):=by
 have HM:=hid (fun bs W (h : Rdr W pb code bs)=>mem_any pb code bs W h)
 have HU:=hid (fun bs W (h : Rdr W pb code bs)=>u2_any pb code bs W h)
 have HV:=hid (fun bs W (h : Rdr W pb code bs)=>u4_any pb code bs W h)
 have HN:=hid (fun bs W (h : Rdr W pb code bs)=>none_any pb code bs W h)
 have HT:=hid (fun k bs W (h : Rdr W pb code bs)=>take_any pb k code bs W h)
 have HH:=hid (fun bs W (h : Rdr W pb code bs)=>hlist_any pb code bs W h)
 have HW:=hid (fun t er W=>want_any pb t er W)
 have HR:=hr
 have HG:=grown_refl' w (some pb)
 have hp0:=hr.sz
 obtain ⟨X,HE⟩ : ∃ X,Cf.meP code bs = X:=⟨_,rfl⟩
 rw [HE]
 unfold Cf.meP at HE
 unfold RP L3.pan VM0 mbV0 at HM
 unfold RP L3.pan VU at HN
 unfold RP L3.pan VI at HU HV
 unfold RP L3.pan VB at HT
 unfold RP L3.pan VHs handlerFn at HH
 unfold L3.pan at HW
 unfold RP L3.pan VMb
 clear hr
 go_enter Tryz.func138,Tryz.ntmps138
 go_wp2_with (first|(go_at_call 167;refine (HM.out _ _ (by first|exact HR|exact HR.below (n:=pb + 1) BLw (Nat.lt_succ_self pb))).mono ?_;rintro e W1 h;rcases h with ⟨er,hx,rfl,hg⟩|⟨m,r,v,hx,rfl,⟨rfl,hm1,hm2,hm3,hm4⟩,hs⟩;all_goals (first|(rw [Cf.bnd_err hx] at HE;have HG : w.grownBy W1 (some pb):=L3.grown_trans GRw hg)|(rw [Cf.bnd_ok hx] at HE;have HG : w.grownBy W1 (some pb):=L3.grown_trans GRw hs.1;have HR:=hs.2;have hz:=HG.size;have hp:=HR.sz;have HA:=L3.BX.grown (L3.BX.new w #[.int .i64 0,.int .i64 0,.int .i64 0,.int .i64 0,.int .i64 0,.slice none 0 0,.slice none 0 0] 42) hs.1 (fun e=>by (have:=Option.some.inj e;omega));have hzA:=HA.sz));clear hx)|(go_at_call 133;refine (HU.out _ _ (by first|exact HR|exact HR.below (n:=pb + 1) BLw (Nat.lt_succ_self pb))).mono ?_;rintro e W h;rcases h with ⟨er,hx,rfl,hg⟩|⟨n,r,v,hx,rfl,rfl,hs⟩;all_goals (first|(rw [Cf.bnd_err hx] at HE;have HG : w.grownBy W (some pb):=L3.grown_trans GRw hg)|(have hn:=Cf.u2_range hx;rw [Cf.bnd_ok hx] at HE;have HG : w.grownBy W (some pb):=L3.grown_trans GRw hs.1;have HR:=hs.2;have hz:=HG.size;have hp:=HR.sz;obtain ⟨la,lc,l0,l1⟩:=HR.cells;have hz1:=hs.1.size;(try simp at hz1);(have HA:=L3.BX.grown (L3.BX.below (n:=w.heap.size + 1) HA BLw (Nat.lt_succ_self _)) hs.1 (fun e=>by (have:=Option.some.inj e;omega)));(first|(have HB:=L3.BX.grown HB hs.1 (fun e=>by (have:=Option.some.inj e;omega)))|(have HB:=L3.BX.grown (HB.set 3 _) hs.1 (fun e=>by (have:=Option.some.inj e;omega));simp at HB)|(have HB:=L3.BX.grown (HB.set 4 _) hs.1 (fun e=>by (have:=Option.some.inj e;omega));simp at HB)|(have HB:=L3.BX.grown (HB.set 5 _) hs.1 (fun e=>by (have:=Option.some.inj e;omega));simp at HB)|(have HB:=L3.BX.grown (HB.set 6 _) hs.1 (fun e=>by (have:=Option.some.inj e;omega));simp at HB)|(have HB:=L3.BX.grown (L3.BX.new _ _ _) hs.1 (fun e=>by (have:=Option.some.inj e;omega))));(obtain ⟨b0,b1,b2,b3,b4,b5,b6⟩:=HB.cells7;have fb0:=HB.frozen 0;have fb1:=HB.frozen 1;have fb2:=HB.frozen 2;have fb3:=HB.frozen 3;have fb4:=HB.frozen 4;have fb5:=HB.frozen 5;have fb6:=HB.frozen 6)));clear hx;all_goals (try (have _g:=hs;first|(have _g:=st;obtain ⟨lx,rfl⟩ : ∃ lx,lx = n:=⟨_,rfl⟩)|(have _g:=HE0;obtain ⟨st,rfl⟩ : ∃ st,st = n:=⟨_,rfl⟩)|skip)))|(go_at_call 131;refine (HW.out _ _ _).mono ?_;rintro e _ (⟨ht,rfl,rfl⟩|⟨ht,rfl,rfl⟩);all_goals (first|(exact absurd ht (by decide))|rw [Cf.want_no' (by exact ht)] at HE|rw [Cf.want_no' (by simp at ht ⊢;omega)] at HE|rw [Cf.want_no' (by simp;omega)] at HE|rw [Cf.want_yes' (by exact ht)] at HE|rw [Cf.want_yes' (by simp at ht ⊢;omega)] at HE|rw [Cf.want_yes' (by simp;omega)] at HE|skip))|(go_at_call 132;refine (HV.out _ _ (by first|exact HR|exact HR.below (n:=pb + 1) BLw (Nat.lt_succ_self pb))).mono ?_;rintro e W h;rcases h with ⟨er,hx,rfl,hg⟩|⟨n,r,v,hx,rfl,rfl,hs⟩;all_goals (first|(rw [Cf.bnd_err hx] at HE;have HG : w.grownBy W (some pb):=L3.grown_trans GRw hg)|(have hn:=Cf.u4_range hx;rw [Cf.bnd_ok hx] at HE;have HG : w.grownBy W (some pb):=L3.grown_trans GRw hs.1;have HR:=hs.2;have hz:=HG.size;have hp:=HR.sz;obtain ⟨la,lc,l0,l1⟩:=HR.cells;have hz1:=hs.1.size;(try simp at hz1);(have HA:=L3.BX.grown (L3.BX.below (n:=w.heap.size + 1) HA BLw (Nat.lt_succ_self _)) hs.1 (fun e=>by (have:=Option.some.inj e;omega)));(first|(have HB:=L3.BX.grown HB hs.1 (fun e=>by (have:=Option.some.inj e;omega)))|(have HB:=L3.BX.grown (HB.set 3 _) hs.1 (fun e=>by (have:=Option.some.inj e;omega));simp at HB)|(have HB:=L3.BX.grown (HB.set 4 _) hs.1 (fun e=>by (have:=Option.some.inj e;omega));simp at HB)|(have HB:=L3.BX.grown (HB.set 5 _) hs.1 (fun e=>by (have:=Option.some.inj e;omega));simp at HB)|(have HB:=L3.BX.grown (HB.set 6 _) hs.1 (fun e=>by (have:=Option.some.inj e;omega));simp at HB)|(have HB:=L3.BX.grown (L3.BX.new _ _ _) hs.1 (fun e=>by (have:=Option.some.inj e;omega))));(obtain ⟨b0,b1,b2,b3,b4,b5,b6⟩:=HB.cells7;have fb0:=HB.frozen 0;have fb1:=HB.frozen 1;have fb2:=HB.frozen 2;have fb3:=HB.frozen 3;have fb4:=HB.frozen 4;have fb5:=HB.frozen 5;have fb6:=HB.frozen 6);(try (unfold Cf.sizedP at HE;have HE0:=HE;clear HE;obtain ⟨Y,HE⟩ : ∃ Y,Cf.bodyP m r = Y:=⟨_,rfl⟩;rw [HE] at HE0;unfold Cf.bodyP at HE;have hl0:=HR.len;obtain ⟨n0,hn0⟩ : ∃ n0 : Nat,r.length = n0:=⟨_,rfl⟩;rw [hn0] at HE0 l0 hl0;clear hn0))));clear hx)|(go_at_call 165;obtain ⟨k,rfl⟩:=Int.eq_ofNat_of_zero_le hn.1;rw [Int.toNat_natCast] at HE;refine (HT.out k _ _ (by first|exact HR|exact HR.below (n:=pb + 1) BLw (Nat.lt_succ_self pb))).mono ?_;rintro e W h;rcases h with ⟨er,hx,rfl,hg⟩|⟨cl,r,v,hx,rfl,hvb,hs⟩;all_goals (first|(rw [Cf.bnd_err hx] at HE;have HG : w.grownBy W (some pb):=L3.grown_trans GRw hg)|(have hcl:=Cf.take_len hx;rw [Cf.bnd_ok hx] at HE;have HG : w.grownBy W (some pb):=L3.grown_trans GRw hs.1;have HR:=hs.2;have hz:=HG.size;have hp:=HR.sz;obtain ⟨la,lc,l0,l1⟩:=HR.cells;have hz1:=hs.1.size;(try simp at hz1);(have HA:=L3.BX.grown (L3.BX.below (n:=w.heap.size + 1) HA BLw (Nat.lt_succ_self _)) hs.1 (fun e=>by (have:=Option.some.inj e;omega)));(first|(have HB:=L3.BX.grown HB hs.1 (fun e=>by (have:=Option.some.inj e;omega)))|(have HB:=L3.BX.grown (HB.set 3 _) hs.1 (fun e=>by (have:=Option.some.inj e;omega));simp at HB)|(have HB:=L3.BX.grown (HB.set 4 _) hs.1 (fun e=>by (have:=Option.some.inj e;omega));simp at HB)|(have HB:=L3.BX.grown (HB.set 5 _) hs.1 (fun e=>by (have:=Option.some.inj e;omega));simp at HB)|(have HB:=L3.BX.grown (HB.set 6 _) hs.1 (fun e=>by (have:=Option.some.inj e;omega));simp at HB)|(have HB:=L3.BX.grown (L3.BX.new _ _ _) hs.1 (fun e=>by (have:=Option.some.inj e;omega))));(obtain ⟨b0,b1,b2,b3,b4,b5,b6⟩:=HB.cells7;have fb0:=HB.frozen 0;have fb1:=HB.frozen 1;have fb2:=HB.frozen 2;have fb3:=HB.frozen 3;have fb4:=HB.frozen 4;have fb5:=HB.frozen 5;have fb6:=HB.frozen 6)));clear hx)|(go_at_call 129;refine (bclone_any cl.length (cl.map L3.bv) _ _ (isS_of_bs (hvb.mono (Nat.le_of_lt hp)) (by omega)) (by omega) (ones_b cl)).mono ?_;rintro e W ⟨cv,rfl,oc,hbc⟩;obtain ⟨ca,cc,rfl⟩:=L3.own_form oc;have hzB:=HB.sz;have HG : w.grownBy W (some pb):=L3.grown_trans HG (L3.grown_of_below hbc _);have HR:=HR.below hbc hp;have hz:=HG.size;have hp:=HR.sz;obtain ⟨la,lc,l0,l1⟩:=HR.cells;have hz1:=hbc.size;have HA:=HA.below hbc HA.sz;have HB:=HB.below hbc HB.sz;have OC:=L3.own_mono (base':=W1.heap.size + 1) oc hzB;(obtain ⟨b0,b1,b2,b3,b4,b5,b6⟩:=HB.cells7;have fb0:=HB.frozen 0;have fb1:=HB.frozen 1;have fb2:=HB.frozen 2;have fb3:=HB.frozen 3;have fb4:=HB.frozen 4;have fb5:=HB.frozen 5;have fb6:=HB.frozen 6))|(go_at_call 168;refine (HH.out _ _ (by first|exact HR|exact HR.below (n:=pb + 1) BLw (Nat.lt_succ_self pb))).mono ?_;rintro e W h;rcases h with ⟨er,hx,rfl,hg⟩|⟨hl,r,v,hx,rfl,⟨oh,hhl⟩,hs⟩;all_goals (first|(rw [Cf.bnd_err hx] at HE;have HG : w.grownBy W (some pb):=L3.grown_trans GRw hg)|(obtain ⟨ha,hc,rfl⟩:=L3.own_form oh;rw [Cf.bnd_ok hx] at HE;have HG : w.grownBy W (some pb):=L3.grown_trans GRw hs.1;have HR:=hs.2;have hz:=HG.size;have hp:=HR.sz;obtain ⟨la,lc,l0,l1⟩:=HR.cells;have hz1:=hs.1.size;(try simp at hz1);have hzB:=HB.sz;have OC:=Kit.owns_grown (Kit.owns_grown OC (L3.set_grown _ _ _ _) (Nat.lt_succ_self W1.heap.size)) hs.1 (by omega);(have HA:=L3.BX.grown (L3.BX.below (n:=w.heap.size + 1) HA BLw (Nat.lt_succ_self _)) hs.1 (fun e=>by (have:=Option.some.inj e;omega)));(first|(have HB:=L3.BX.grown HB hs.1 (fun e=>by (have:=Option.some.inj e;omega)))|(have HB:=L3.BX.grown (HB.set 3 _) hs.1 (fun e=>by (have:=Option.some.inj e;omega));simp at HB)|(have HB:=L3.BX.grown (HB.set 4 _) hs.1 (fun e=>by (have:=Option.some.inj e;omega));simp at HB)|(have HB:=L3.BX.grown (HB.set 5 _) hs.1 (fun e=>by (have:=Option.some.inj e;omega));simp at HB)|(have HB:=L3.BX.grown (HB.set 6 _) hs.1 (fun e=>by (have:=Option.some.inj e;omega));simp at HB)|(have HB:=L3.BX.grown (L3.BX.new _ _ _) hs.1 (fun e=>by (have:=Option.some.inj e;omega))));have OH:=L3.own_mono (base':=W1.heap.size + 1) oh (by simp only [World.size_setCell];omega);(obtain ⟨b0,b1,b2,b3,b4,b5,b6⟩:=HB.cells7;have fb0:=HB.frozen 0;have fb1:=HB.frozen 1;have fb2:=HB.frozen 2;have fb3:=HB.frozen 3;have fb4:=HB.frozen 4;have fb5:=HB.frozen 5;have fb6:=HB.frozen 6)));clear hx)|(go_at_call 135;refine (HN.out _ _ (by first|exact HR|exact HR.below (n:=pb + 1) BLw (Nat.lt_succ_self pb))).mono ?_;rintro e W h;rcases h with ⟨er,hx,rfl,hg⟩|⟨u,r,v,hx,rfl,rfl,hs⟩;all_goals (first|(rw [Cf.bnd_err hx] at HE;have HG : w.grownBy W (some pb):=L3.grown_trans GRw hg)|(rw [Cf.bnd_ok hx] at HE;have HG : w.grownBy W (some pb):=L3.grown_trans GRw hs.1;have HR:=hs.2;have hz:=HG.size;have hp:=HR.sz;obtain ⟨la,lc,l0,l1⟩:=HR.cells;have hz1:=hs.1.size;(try simp at hz1);have hzB:=HB.sz;have OC:=Kit.owns_grown (Kit.owns_grown OC (L3.set_grown _ _ _ _) (Nat.lt_succ_self W1.heap.size)) hs.1 (by omega);have OH:=Kit.owns_grown (Kit.owns_grown OH (L3.set_grown _ _ _ _) (Nat.lt_succ_self W1.heap.size)) hs.1 (by omega);(have HA:=L3.BX.grown (L3.BX.below (n:=w.heap.size + 1) HA BLw (Nat.lt_succ_self _)) hs.1 (fun e=>by (have:=Option.some.inj e;omega)));(first|(have HB:=L3.BX.grown HB hs.1 (fun e=>by (have:=Option.some.inj e;omega)))|(have HB:=L3.BX.grown (HB.set 3 _) hs.1 (fun e=>by (have:=Option.some.inj e;omega));simp at HB)|(have HB:=L3.BX.grown (HB.set 4 _) hs.1 (fun e=>by (have:=Option.some.inj e;omega));simp at HB)|(have HB:=L3.BX.grown (HB.set 5 _) hs.1 (fun e=>by (have:=Option.some.inj e;omega));simp at HB)|(have HB:=L3.BX.grown (HB.set 6 _) hs.1 (fun e=>by (have:=Option.some.inj e;omega));simp at HB)|(have HB:=L3.BX.grown (L3.BX.new _ _ _) hs.1 (fun e=>by (have:=Option.some.inj e;omega))));(obtain ⟨a0,a1,a2,a3,a4,a5,a6⟩:=HA.cells7;have fa0:=HA.frozen 0;have fa1:=HA.frozen 1;have fa2:=HA.frozen 2;have fa3:=HA.frozen 3;have fa4:=HA.frozen 4;have fa5:=HA.frozen 5;have fa6:=HA.frozen 6);(obtain ⟨b0,b1,b2,b3,b4,b5,b6⟩:=HB.cells7;have fb0:=HB.frozen 0;have fb1:=HB.frozen 1;have fb2:=HB.frozen 2;have fb3:=HB.frozen 3;have fb4:=HB.frozen 4;have fb5:=HB.frozen 5;have fb6:=HB.frozen 6);have hrl:=HR.len;have hw : IntKind.i64.wrap ((n0 : Int) - (r.length : Int)) = (n0 : Int) - (r.length : Int):=IntWalk.i64_in _ (by omega)));clear hx))
 all_goals (first|(exact ⟨rfl,.inl ⟨_,HE.symm,rfl,HG⟩⟩)|(exact ⟨rfl,.inl ⟨_,by rw [← HE] at HE0;exact HE0.symm,rfl,HG⟩⟩)|skip)
 ·refine ⟨rfl,.inl ⟨43,?_,rfl,HG⟩⟩
  rw [← HE] at HE0
  unfold Cf.ret at HE0
  dsimp only at HE0
  rw [if_neg (by simpa using ht)] at HE0
  exact HE0.symm
 ·have hk : k = cl.length:=hcl.symm
  subst hk
  refine bodyPost_ret (v:=.agg #[.int .i64 m.ac,.int .i64 m.nm,.int .i64 m.ds,.int .i64 st,.int .i64 lx,.slice ca cl.length cc,.slice ha hl.length hc]) (by simp [results,Tryz.results138,go_sem,a0,a1,a2,a3,a4,a5,a6]) rfl (.inr ⟨{ m with st:=st,lc:=lx,code:=cl,hs:=hl },r,_,?_,rfl,⟨[.int .i64 m.ac,.int .i64 m.nm,.int .i64 m.ds,.int .i64 st,.int .i64 lx,.slice ca cl.length cc,.slice ha hl.length hc],rfl,.slice ca cl.length cc,.slice ha hl.length hc,rfl,?_,?_,?_,?_⟩,?_,?_⟩)
  ·rw [← HE] at HE0
   unfold Cf.ret at HE0
   dsimp only at HE0
   rw [if_pos (by simpa using ht)] at HE0
   exact HE0.symm
  ·refine L3.own_mono (base:=W1.heap.size + 1) ?_ (by omega)
   have hlt : w.heap.size < W1.heap.size + 1:=by omega
   (iterate 7 (refine Kit.owns_grown ?_ (L3.set_grown _ _ _ _) hlt))
   exact OC
  ·refine L3.own_mono (base:=W1.heap.size + 1) ?_ (by omega)
   have hlt : w.heap.size < W1.heap.size + 1:=by omega
   (iterate 7 (refine Kit.owns_grown ?_ (L3.set_grown _ _ _ _) hlt))
   exact OH
  ·show cl.length ≤ _
   omega
  ·show hl.length ≤ _
   omega
  ·exact GRw
  ·exact HR.keep BLw
end Go.Proofs.YtnojgiflgmnjlaaGreatDoor
namespace Go.Proofs.YtnojgiflgmnjlaaGreatDoor
open Go.RowKit
def mL (m : Cf.Mb) (cv hv : Value) : List Value:=[.int .i64 m.ac,.int .i64 m.nm,.int .i64 m.ds,.int .i64 m.st,.int .i64 m.lc,cv,hv]
theorem news_m (w : World) (m : Cf.Mb) (cv hv : Value) : ∀ j u,(mL m cv hv)[j]? = some u → (w.alloc (.cells #[.int .i64 m.ac,.int .i64 m.nm,.int .i64 m.ds,.int .i64 m.st,.int .i64 m.lc,cv,hv] 42)).cell? ((⟨w.heap.size,0,none⟩ : Addr).add j) = some u:=by
 intro j u hj
 match j,hj with
 | 0,hj|1,hj|2,hj|3,hj|4,hj|5,hj|6,hj=>simp [mL] at hj;subst hj;simp [Addr.add,go_sem]
 | j + 7,hj=>simp [mL] at hj
theorem ones_m (m : Cf.Mb) {cv hv : Value} (h1 : cv.oneCell' = true) (h2 : hv.oneCell' = true) : ∀ u ∈ mL m cv hv,u.oneCell' = true:=by
 intro u hu
 simp [mL] at hu
 rcases hu with rfl|rfl|rfl|rfl|rfl|rfl|rfl <;> first|rfl|assumption
theorem OMs.push {w w' : World} {base : Nat} {v v' cv hv : Value} {ms : List Cf.Mb} {m : Cf.Mb} {rs : List (List Value)} (h1 : All2 (OMb w base) rs ms) (h2 : w.ownsRow base 42 7 v ms.length rs.flatten) (hm : OMb w base (mL m cv hv) m)
  (hg : w.grownBy w' v.ownBlock) (h3 : w'.ownsRow base 42 7 v' (ms.length + 1) (rs.flatten ++ mL m cv hv)) : OMs w' base v' (ms ++ [m]):=by
 refine ⟨rs ++ [mL m cv hv],(h1.mono fun _ _ k=>k.apart h2 hg).append (hm.apart h2 hg),?_⟩
 simpa using h3
def VMs (w : World) (base : Nat) (v : Value) (ms : List Cf.Mb) : Prop:=OMs w base v ms ∧ ms.length ≤ 65535
set_option maxHeartbeats 1000000 in
theorem flist_any (pb : Nat) (code : Int) (bs : List UInt8) (w : World) (hr : Rdr w pb code bs) :
  Calls Tryz.prog 136 #[.pointer (some ⟨pb,0,none⟩),.func (.func 137) #[] #[]] w (RP pb code (Cf.listN Cf.fdP bs) VMs w):=by
 have HU:=hid (fun bs W (h : Rdr W pb code bs)=>u2_any pb code bs W h)
 have HH:=hid (fun bs W (h : Rdr W pb code bs)=>field_any pb code bs W h)
 obtain ⟨i0,hi,hz0,hz1,hz2⟩:=info_parts infoM
 have HR:=hr
 have HG:=grown_refl' w (some pb)
 have hp0:=hr.sz
 obtain ⟨X,HE⟩ : ∃ X,Cf.listN Cf.fdP bs = X:=⟨_,rfl⟩
 rw [HE]
 unfold Cf.listN at HE
 unfold RP L3.pan VI at HU
 unfold RP L3.pan VMb at HH
 unfold RP L3.pan VMs
 clear hr
 go_enter Tryz.func136,Tryz.ntmps136
 go_wp2_with (go_at_call 133;refine (HU.out _ _ (by first|exact HR|exact HR.below (n:=pb + 1) BLw (Nat.lt_succ_self pb))).mono ?_;rintro e W h;rcases h with ⟨er,hx,rfl,hg⟩|⟨n,r,v,hx,rfl,rfl,hs⟩;all_goals (first|(rw [Cf.bnd_err hx] at HE;have HG : w.grownBy W (some pb):=L3.grown_trans GRw hg)|(have hn:=Cf.u2_range hx;rw [Cf.bnd_ok hx] at HE;have HG : w.grownBy W (some pb):=L3.grown_trans GRw hs.1;have HR:=hs.2;have hz:=HG.size;have hp:=HR.sz));clear hx)
 ·(exact ⟨rfl,.inl ⟨_,HE.symm,rfl,HG⟩⟩)
 ·obtain ⟨N,rfl⟩:=Int.eq_ofNat_of_zero_le hn.1
  rw [← Cf.listA_nil,Int.toNat_natCast] at HE
  go_loopw [6,10] (fun v i wr=>∃ (xs : List Cf.Mb) (j : Nat) (rest : List UInt8),i = .int .i64 j ∧ j ≤ N ∧ xs.length = j ∧ OMs wr w.heap.size v xs ∧ w.grownBy wr (some pb) ∧ Rdr wr pb code rest ∧ Cf.listA Cf.fdP (N - j) xs rest = X) (fun _ i _=>N - (intOf i).toNat)
  case atStart=>exact ⟨[],0,r,rfl,by omega,rfl,OMs.nil _ _,HG,HR,HE⟩
  case round =>
   obtain ⟨xs,j,rest,rfl,hj,hxl,⟨rs,HRs,HO⟩,HG,HR,HE⟩:=hrel
   have hz:=HG.size
   obtain ⟨a0,cap0,rfl⟩:=L3.own_form HO
   by_cases hlt : j < N
   ·obtain ⟨k,hk⟩ : ∃ k,N - j = k + 1:=⟨N - j - 1,by omega⟩
    rw [hk] at HE
    have hji : (j : Int) < N:=by omega
    have HXL:=hid hxl
    have HRS:=hid HRs
    clear hxl HRs
    go_wp2_with (first
     | (go_at_call 137;refine (HH.out _ _ (by first|exact HR|exact HR.below (n:=pb + 1) BLw (Nat.lt_succ_self pb))).mono ?_;rintro e W h;rcases h with ⟨er,hx,rfl,hg⟩|⟨x,r,v,hx,rfl,⟨_,rfl,cv,hv,rfl,oc,oh,hl1,hl2⟩,hs⟩;all_goals (first|(rw [Cf.listA_err hx] at HE;have HG : w.grownBy W (some pb):=L3.grown_trans GRw hg)|(obtain ⟨ca,cc,rfl⟩:=L3.own_form oc;obtain ⟨ha,hc,rfl⟩:=L3.own_form oh;rw [Cf.listA_ok hx] at HE;have HG : w.grownBy W (some pb):=L3.grown_trans GRw hs.1;have HR:=hs.2;have hz:=HG.size;have hp:=HR.sz;have HO:=Kit.owns_grown HO hs.1 (by omega);have HRS:=hid (HRS.out.mono fun _ _ k=>k.grown hs.1 (by omega));have HMb:=hid (show OMb W w.heap.size (mL x (.slice ca x.code.length cc) (.slice ha x.hs.length hc)) x from ⟨_,_,rfl,L3.own_mono oc (by omega),L3.own_mono oh (by omega),hl1,hl2⟩)));clear hx)
     | (at_builtin;refine wpList_append_own_at _ rfl (.tmp 12) (.tmp 16) 24 rfl w.heap.size 42 i0 _ 7 88 Tryz.underlying24 hi hz0 hz1 hz2 rfl (by decide) _ _ _ rfl (HO.alloc _) ⟨W.heap.size,0,none⟩ 1 1 (mL x (.slice ca x.code.length cc) (.slice ha x.hs.length hc)) rfl rfl (news_m W x _ _) (ones_m x rfl rfl) (by (have:=HXL.out;unfold maxLen;omega)) (by (have:=HXL.out;omega)) (by simp only [World.size_alloc];omega) ?_;intro v' w' hown' hgrow' _ hbk'))
    ·(exact ⟨rfl,.inl ⟨_,HE.symm,rfl,HG⟩⟩)
    ·go_roundw
     case rel =>
      have HA:=(HRS.out.mono fun _ _ k=>k.below ((Below.refl W.heap.size W).alloc (Nat.le_refl _) (.cells #[.int .i64 x.ac,.int .i64 x.nm,.int .i64 x.ds,.int .i64 x.st,.int .i64 x.lc,.slice ca x.code.length cc,.slice ha x.hs.length hc] 42)) (Nat.le_refl _))
      have HB:=HMb.out.below ((Below.refl W.heap.size W).alloc (Nat.le_refl _) (.cells #[.int .i64 x.ac,.int .i64 x.nm,.int .i64 x.ds,.int .i64 x.st,.int .i64 x.lc,.slice ca x.code.length cc,.slice ha x.hs.length hc] 42)) (Nat.le_refl _)
      exact ⟨xs ++ [x],j + 1,r,by go_num,by omega,by simp [HXL.out],OMs.push HA (HO.alloc _) HB hgrow' hown',grown_row GRw (HO.alloc _) hgrow',(HR.keep (w':=W.alloc _) BLw).row hp0 (HO.alloc _) hgrow',by rw [show N - (j + 1) = k by omega];exact HE⟩
     case measure=>simp [intOf];omega
   ·obtain rfl : j = N:=by omega
    rw [Nat.sub_self,Cf.listA_zero] at HE
    go_wp2
    go_ret
    exact .inr ⟨_,_,_,HE.symm,rfl,⟨⟨rs,HRs,HO⟩,by omega⟩,HG,HR⟩
set_option maxHeartbeats 1000000 in
theorem mlist_any (pb : Nat) (code : Int) (bs : List UInt8) (w : World) (hr : Rdr w pb code bs) :
  Calls Tryz.prog 136 #[.pointer (some ⟨pb,0,none⟩),.func (.func 138) #[] #[]] w (RP pb code (Cf.listN (Cf.meP code) bs) VMs w):=by
 have HU:=hid (fun bs W (h : Rdr W pb code bs)=>u2_any pb code bs W h)
 have HH:=hid (fun bs W (h : Rdr W pb code bs)=>method_any pb code bs W h)
 obtain ⟨i0,hi,hz0,hz1,hz2⟩:=info_parts infoM
 have HR:=hr
 have HG:=grown_refl' w (some pb)
 have hp0:=hr.sz
 obtain ⟨X,HE⟩ : ∃ X,Cf.listN (Cf.meP code) bs = X:=⟨_,rfl⟩
 rw [HE]
 unfold Cf.listN at HE
 unfold RP L3.pan VI at HU
 unfold RP L3.pan VMb at HH
 unfold RP L3.pan VMs
 clear hr
 go_enter Tryz.func136,Tryz.ntmps136
 go_wp2_with (go_at_call 133;refine (HU.out _ _ (by first|exact HR|exact HR.below (n:=pb + 1) BLw (Nat.lt_succ_self pb))).mono ?_;rintro e W h;rcases h with ⟨er,hx,rfl,hg⟩|⟨n,r,v,hx,rfl,rfl,hs⟩;all_goals (first|(rw [Cf.bnd_err hx] at HE;have HG : w.grownBy W (some pb):=L3.grown_trans GRw hg)|(have hn:=Cf.u2_range hx;rw [Cf.bnd_ok hx] at HE;have HG : w.grownBy W (some pb):=L3.grown_trans GRw hs.1;have HR:=hs.2;have hz:=HG.size;have hp:=HR.sz));clear hx)
 ·(exact ⟨rfl,.inl ⟨_,HE.symm,rfl,HG⟩⟩)
 ·obtain ⟨N,rfl⟩:=Int.eq_ofNat_of_zero_le hn.1
  rw [← Cf.listA_nil,Int.toNat_natCast] at HE
  go_loopw [6,10] (fun v i wr=>∃ (xs : List Cf.Mb) (j : Nat) (rest : List UInt8),i = .int .i64 j ∧ j ≤ N ∧ xs.length = j ∧ OMs wr w.heap.size v xs ∧ w.grownBy wr (some pb) ∧ Rdr wr pb code rest ∧ Cf.listA (Cf.meP code) (N - j) xs rest = X) (fun _ i _=>N - (intOf i).toNat)
  case atStart=>exact ⟨[],0,r,rfl,by omega,rfl,OMs.nil _ _,HG,HR,HE⟩
  case round =>
   obtain ⟨xs,j,rest,rfl,hj,hxl,⟨rs,HRs,HO⟩,HG,HR,HE⟩:=hrel
   have hz:=HG.size
   obtain ⟨a0,cap0,rfl⟩:=L3.own_form HO
   by_cases hlt : j < N
   ·obtain ⟨k,hk⟩ : ∃ k,N - j = k + 1:=⟨N - j - 1,by omega⟩
    rw [hk] at HE
    have hji : (j : Int) < N:=by omega
    have HXL:=hid hxl
    have HRS:=hid HRs
    clear hxl HRs
    go_wp2_with (first
     | (go_at_call 138;refine (HH.out _ _ (by first|exact HR|exact HR.below (n:=pb + 1) BLw (Nat.lt_succ_self pb))).mono ?_;rintro e W h;rcases h with ⟨er,hx,rfl,hg⟩|⟨x,r,v,hx,rfl,⟨_,rfl,cv,hv,rfl,oc,oh,hl1,hl2⟩,hs⟩;all_goals (first|(rw [Cf.listA_err hx] at HE;have HG : w.grownBy W (some pb):=L3.grown_trans GRw hg)|(obtain ⟨ca,cc,rfl⟩:=L3.own_form oc;obtain ⟨ha,hc,rfl⟩:=L3.own_form oh;rw [Cf.listA_ok hx] at HE;have HG : w.grownBy W (some pb):=L3.grown_trans GRw hs.1;have HR:=hs.2;have hz:=HG.size;have hp:=HR.sz;have HO:=Kit.owns_grown HO hs.1 (by omega);have HRS:=hid (HRS.out.mono fun _ _ k=>k.grown hs.1 (by omega));have HMb:=hid (show OMb W w.heap.size (mL x (.slice ca x.code.length cc) (.slice ha x.hs.length hc)) x from ⟨_,_,rfl,L3.own_mono oc (by omega),L3.own_mono oh (by omega),hl1,hl2⟩)));clear hx)
     | (at_builtin;refine wpList_append_own_at _ rfl (.tmp 12) (.tmp 16) 24 rfl w.heap.size 42 i0 _ 7 88 Tryz.underlying24 hi hz0 hz1 hz2 rfl (by decide) _ _ _ rfl (HO.alloc _) ⟨W.heap.size,0,none⟩ 1 1 (mL x (.slice ca x.code.length cc) (.slice ha x.hs.length hc)) rfl rfl (news_m W x _ _) (ones_m x rfl rfl) (by (have:=HXL.out;unfold maxLen;omega)) (by (have:=HXL.out;omega)) (by simp only [World.size_alloc];omega) ?_;intro v' w' hown' hgrow' _ hbk'))
    ·(exact ⟨rfl,.inl ⟨_,HE.symm,rfl,HG⟩⟩)
    ·go_roundw
     case rel =>
      have HA:=(HRS.out.mono fun _ _ k=>k.below ((Below.refl W.heap.size W).alloc (Nat.le_refl _) (.cells #[.int .i64 x.ac,.int .i64 x.nm,.int .i64 x.ds,.int .i64 x.st,.int .i64 x.lc,.slice ca x.code.length cc,.slice ha x.hs.length hc] 42)) (Nat.le_refl _))
      have HB:=HMb.out.below ((Below.refl W.heap.size W).alloc (Nat.le_refl _) (.cells #[.int .i64 x.ac,.int .i64 x.nm,.int .i64 x.ds,.int .i64 x.st,.int .i64 x.lc,.slice ca x.code.length cc,.slice ha x.hs.length hc] 42)) (Nat.le_refl _)
      exact ⟨xs ++ [x],j + 1,r,by go_num,by omega,by simp [HXL.out],OMs.push HA (HO.alloc _) HB hgrow' hown',grown_row GRw (HO.alloc _) hgrow',(HR.keep (w':=W.alloc _) BLw).row hp0 (HO.alloc _) hgrow',by rw [show N - (j + 1) = k by omega];exact HE⟩
     case measure=>simp [intOf];omega
   ·obtain rfl : j = N:=by omega
    rw [Nat.sub_self,Cf.listA_zero] at HE
    go_wp2
    go_ret
    exact .inr ⟨_,_,_,HE.symm,rfl,⟨⟨rs,HRs,HO⟩,by omega⟩,HG,HR⟩
end Go.Proofs.YtnojgiflgmnjlaaGreatDoor
namespace Go.Proofs.YtnojgiflgmnjlaaGreatDoor
open Go.RowKit
theorem plGo_suf : ∀ {f n : Nat} {l l' : List L3.Cp.C} {r r' : List UInt8},L3.plGo f n l r = .ok (l',r') → ∃ j,j ≤ r.length ∧ r' = r.drop j
 | 0,n,l,l',r,r',h=>by
  unfold L3.plGo at h
  obtain ⟨-,rfl⟩:=Prod.mk.inj (Except.ok.inj h)
  exact ⟨0,by omega,by simp⟩
 | f + 1,n,l,l',r,r',h=>by
  unfold L3.plGo at h
  by_cases h1 : l.length < n
  ·rw [if_pos h1] at h
   cases hx : L3.enP ((n : Int) - (l.length : Int)) r with
   | error e=>rw [hx] at h;cases h
   | ok y =>
    obtain ⟨c,r1⟩:=y
    rw [hx] at h
    obtain ⟨j,-,hj,rfl⟩:=L3.enP_suf hx
    obtain ⟨k,hk,rfl⟩:=plGo_suf h
    rw [List.length_drop] at hk
    exact ⟨j + k,by omega,by rw [List.drop_drop]⟩
  ·rw [if_neg h1] at h
   obtain ⟨-,rfl⟩:=Prod.mk.inj (Except.ok.inj h)
   exact ⟨0,by omega,by simp⟩
theorem plP_suf {bs r : List UInt8} {l : List L3.Cp.C} (h : L3.plP bs = .ok (l,r)) : ∃ j,j ≤ bs.length ∧ r = bs.drop j:=by
 unfold L3.plP at h
 by_cases h1 : bs.length < 2
 ·rw [if_pos h1] at h;cases h
 ·rw [if_neg h1] at h
  by_cases h2 : 4096 < L3.Cp.numI (bs.take 2)
  ·rw [if_pos h2] at h;cases h
  ·rw [if_neg h2] at h
   by_cases h3 : L3.Cp.numI (bs.take 2) = 0
   ·rw [if_pos h3] at h
    obtain ⟨-,rfl⟩:=Prod.mk.inj (Except.ok.inj h)
    exact ⟨2,by omega,rfl⟩
   ·rw [if_neg h3] at h
    obtain ⟨j,hj,rfl⟩:=plGo_suf h
    rw [List.length_drop] at hj
    exact ⟨2 + j,by omega,by rw [List.drop_drop]⟩
theorem Rdr.bs {w : World} {pb : Nat} {code : Int} {bs : List UInt8} (h : Rdr w pb code bs) : ∃ v,w.cell? ⟨pb,0,none⟩ = some v ∧ L3.Bs w.heap.size w v bs ∧ L3.Bs pb w v bs ∧ w.frozen? ⟨pb,0,none⟩ = false ∧ w.frozen? ⟨pb,1,none⟩ = false:=by
 have hs:=h.sz
 obtain ⟨v,h,k⟩:=h
 exact ⟨v,by simp [World.cell?,h],k.mono (by omega),k,by simp [World.frozen?,h],by simp [World.frozen?,h]⟩
def VP (w : World) (base : Nat) (v : Value) (l : List L3.Cp.C) : Prop:=L3.OwnC w base v l ∧ l.length ≤ 4097
set_option maxHeartbeats 400000 in
theorem pool_any (pb : Nat) (code : Int) (bs : List UInt8) (w : World) (ht : L3.Tabs w) (hr : Rdr w pb code bs) :
  Calls Tryz.prog 134 #[.pointer (some ⟨pb,0,none⟩)] w (RP pb code (Cf.poolP bs) VP w):=by
 have hps:=hr.sz
 have hbl:=hr.len
 obtain ⟨v,hb,hv⟩:=hr
 have hv2:=hv.mono (lim':=w.heap.size) (by omega)
 have HT0:=L3.take_any bs v w ht hv2
 have HY:=hid (fun er W=>want_yes pb er W)
 have HN:=hid (fun er W=>want_no pb er W)
 obtain ⟨X,HE⟩ : ∃ X,X = Cf.poolP bs:=⟨_,rfl⟩
 rw [← HE]
 unfold Cf.poolP at HE
 unfold RP L3.pan VP
 unfold L3.pan at HN
 unfold L3.TkPost L3.tkOut at HT0
 rcases hv.2 with ⟨rfl,a,cap,rfl⟩|⟨b,o,cap,rfl,hcap,hlim,hc⟩
 ·have cl : w.cell? ⟨pb,0,none⟩ = some (.slice a 0 cap):=by simp [World.cell?,hb]
  have hx : L3.plP [] = .error 30:=rfl
  rw [hx] at HT0 HE
  dsimp only at HT0
  have HX:=hid HE
  have HT:=hid HT0
  clear HT0 HE hv hv2 hb ht hx
  go_enter Tryz.func134,Tryz.ntmps134
  go_wp2_with (first
   | (go_at_call 166;refine HT.out.mono ?_;rintro e w1 ⟨v1,rfl,o1,b1⟩;obtain ⟨a1,c1,rfl⟩:=L3.own_form o1)
   | (go_at_call 131;refine (HN.out _ _).mono ?_;rintro e w2 ⟨rfl,rfl⟩))
  exact ⟨rfl,.inl ⟨_,HX.out,rfl,L3.grown_of_below b1 _⟩⟩
 ·have cl : w.cell? ⟨pb,0,none⟩ = some (.slice (some ⟨b,o,none⟩) bs.length cap):=by simp [World.cell?,hb]
  cases hx : L3.plP bs with
  | error er =>
   have hne:=L3.plP_err hx
   rw [hx] at HT0 HE
   have HX:=hid HE
   dsimp only at HT0
   have hd : (er == 0) = false:=by simpa using hne
   have HT:=hid HT0
   clear HT0 HE hv hv2 hb ht hx hne hc
   go_enter Tryz.func134,Tryz.ntmps134
   go_wp2_with (first
    | (go_at_call 166;refine HT.out.mono ?_;rintro e w1 ⟨v1,rfl,o1,b1⟩;obtain ⟨a1,c1,rfl⟩:=L3.own_form o1)
    | (go_at_call 131;refine (HN.out _ _).mono ?_;rintro e w2 ⟨rfl,rfl⟩))
   exact ⟨rfl,.inl ⟨_,HX.out,rfl,L3.grown_of_below b1 _⟩⟩
  | ok y =>
   obtain ⟨l,r⟩:=y
   obtain ⟨j,hj,rfl⟩:=plP_suf hx
   have hll:=L3.plP_len hx
   rw [hx] at HT0 HE
   have HX:=hid HE
   have HJ:=hid hj
   dsimp only at HT0
   rw [List.length_drop,show (bs.length : Int) - ((bs.length - j : Nat) : Int) = (j : Int) by omega] at HT0
   have HT:=hid HT0
   have Hb:=hid hb
   have HC:=hid hc
   clear HT0 HE hv hv2 hb ht hx hc
   go_enter Tryz.func134,Tryz.ntmps134
   go_wp2_with (first
    | (go_at_call 166;refine HT.out.mono ?_;rintro e w1 ⟨v1,rfl,o1,b1⟩;obtain ⟨a1,c1,rfl⟩:=L3.own_form o1;have hb1:=hid ((b1.block pb hps).trans Hb.out);have cl1:=b1.cell (p:=⟨pb,0,none⟩) (by simpa using hps);rw [cl] at cl1;have f1 : w1.frozen? ⟨pb,0,none⟩ = false:=(by simp [World.frozen?,hb1.out]))
    | (go_at_call 131;refine (HY.out _ _).mono ?_;rintro e w2 ⟨rfl,rfl⟩))
   all_goals
    go_ret
    refine .inr ⟨l,bs.drop j,HX.out,_,rfl,⟨Kit.owns_grown o1 (L3.set_grown _ _ _ _) hps,hll⟩,L3.grown_trans (L3.grown_of_below b1 _) (L3.grownBy_setCell' _ _ _),_,bx_set hb1.out _,?_⟩
   ·have hk : bs.length = j:=by have:=HJ.out;omega
    exact ⟨by rw [List.length_drop];omega,.inl ⟨List.drop_eq_nil_of_le (by omega),_,_,by rw [hk,Nat.sub_self]⟩⟩
   ·refine ⟨by rw [List.length_drop];omega,.inr ⟨b,o + j,_,by rw [List.length_drop],by rw [List.length_drop];omega,hlim,fun i c hi=>?_⟩⟩
    rw [L3.set_cell_other _ _ _ _ _ hlim,Nat.add_assoc,b1.cell (p:=⟨b,_,none⟩) (by simp;omega)]
    exact HC.out (j + i) c (L3.drop_at hi)
theorem utf8_any (s : ByteArray) (w : World) : Calls Tryz.prog 94 #[.string s] w fun e w'=>e = .returned (.agg (L3.cC ⟨1,s,0,0,0⟩)) ∧ Below w.heap.size w w':=by
 unfold L3.cC
 go_enter Tryz.func94,Tryz.ntmps94
 go_wp2
 exact bodyPost_ret (v:=.agg #[.int .i64 1,.string s,.int .i64 0,.int .i64 0,.int .i64 0]) (by simp [results,Tryz.results94,go_sem]) rfl ⟨rfl,BLw⟩
end Go.Proofs.YtnojgiflgmnjlaaGreatDoor
