/- Own texts for the claim, part 4. -/
import Derived.Test.YtfphiomhlhpphaaZE3
import Derived.LaidEqlPtr
namespace Go.Proofs.Ytfphiomhlhpphaa
open Go Go.RowKit
open Pf (Site Sn ix addk alt keys)
set_option maxRecDepth 100000
set_option maxHeartbeats 2000000
def EqCl (c c2 : Cl) : Prop:=c.2.2 = c2.2.2 ∧ Eq2 0 (·= ·) c.2.1 c2.2.1
theorem rsame_any {w : World} {b b2 : Nat} {l l2 : List Sn} (m : Bool) (h : MapL TI vI w b l) (h2 : MapL TI vI w b2 l2) (he : Eq2 0 (·= ·) l l2) :
  Calls Try.prog 72 #[.agg #[.map (some b),.bool m],.agg #[.map (some b2),.bool m]] w (EqPost w):=by
 have HS:=hid (fun W (hb : Below w.heap.size w W)=>mequalI_any (h.below hb) (h2.below hb) he)
 clear h h2 he
 unfold EqPost at HS
 cases m
 all_goals
  go_enter Try.func72,Try.ntmps72
  go_wp2_with (go_at_call 69;refine (HS.out _ BLw).mono ?_;rintro e w2 ⟨rfl,hb⟩;have hbc:=belows (show Below w.heap.size w _ from BLw) hb (Below.size (show Below w.heap.size w _ from BLw));have HBc:=hid hbc;clear hb hbc)
  go_ret
  exact ⟨rfl,HBc.out⟩
theorem mequalF_any {w : World} {b b2 : Nat} {L L2 : List (Site × Cl)} (h : MapL TS vC w b L) (h2 : MapL TS vC w b2 L2) (hm : ∀ x ∈ L,∃ k,x.2.1 = some k ∧ MapL TI vI w k x.2.2.1) (hm2 : ∀ x ∈ L2,∃ k,x.2.1 = some k ∧ MapL TI vI w k x.2.2.1) (he : Eq2 cl0 EqCl L L2) :
  Calls Try.prog 71 #[.map (some b),.map (some b2),.func (.func 72) #[] #[]] w (EqPost w):=by
 have HM2:=hid h2
 have HE:=hid he
 have HMl:=hid hm
 have HMl2:=hid hm2
 have ln1:=h.len uC
 have ln2:=h2.len uC
 rw [← he.len] at ln2
 have HM:=hid h
 obtain ⟨n,hn⟩ : ∃ n,(L.length : Int) = n:=⟨_,rfl⟩
 rw [hn] at ln1 ln2
 clear h h2 he hn hm hm2
 go_enter Try.func71,Try.ntmps71
 go_wp2_with (at_range;refine wpList_range_L _ rfl _ 75 rfl 85 ts uC rfl HM.out ?_;intro w0 hrg0 hb0 hs0)
 have HR0:=hid hrg0
 have HB0:=hid hb0
 clear hrg0 hb0 hs0 ln1 ln2
 go_frame
 go_loopw [] (fun wr=>∃ done todo : List (Site × Cl),Hid (RangeL TS vC wr b w.heap.size L done todo ∧ Below w.heap.size w wr)) (fun wr=>wr.rangeLeft b w.heap.size)
 case atStart=>exact ⟨[],L,HR0.out,HB0.out⟩
 case round =>
  clear HR0 HB0
  obtain ⟨done,todo,HI⟩:=hrel
  go_wp2_with (at_next;refine wpList_next_M _ rfl _ rfl ts rfl HI.out.1 ?_ ?_)
  ·intro hp
   clear hp
   go_wp2
   go_ret
   exact ⟨rfl,HI.out.2⟩
  ·rintro ⟨⟨x1,x2⟩,mo,l,m⟩ todo' w1 hx hrg1 hlt hg1 hs1 hen
   have HRg:=hid hrg1
   have HLt:=hid hlt
   have hch : Chg (fun i=>i = w.heap.size) wr w1:=Chg.of_grown hg1 (fun k e=>(Option.some.inj e).symm)
   have HBw : Hid (Below w.heap.size w w1):=HI.out.2.trans (hch.to_below (B:=w.heap.size) (fun k e=>by omega) HI.out.2.size)
   obtain ⟨k,hk0,hk1⟩:=HMl.out _ hx
   obtain rfl : mo = some k:=hk0
   obtain ⟨hmem,hmm,hee⟩:=HE.out.at_ _ hx
   obtain ⟨k2,hk2,hk3⟩:=HMl2.out _ (Pf.mem_look_iff (d:=cl0) HM2.out.nd hmem)
   obtain ⟨c2,hc2⟩ : ∃ c,Pf.look cl0 L2 ((x1,x2) : Site) = c:=⟨_,rfl⟩
   have hok:=HM.out.ok _ (Pf.mem_keys.2 ⟨_,hx,rfl⟩)
   dsimp only at hmem hmm hee hk2 hk3 hk1 hok
   rw [hc2] at hmm hee hk2 hk3
   obtain ⟨mo2,l2,m2⟩:=c2
   obtain rfl : mo2 = some k2:=hk2
   obtain rfl : m = m2:=hmm
   obtain ⟨wa,hwa⟩ : ∃ x,x = w1.alloc (.cells #[.int .i64 x1,.int .i64 x2] 29):=⟨_,rfl⟩
   obtain ⟨wb,hwb⟩ : ∃ x,x = wa.alloc (.cells #[.map (some k),.bool m] 85):=⟨_,rfl⟩
   have hba : Below w1.heap.size w1 wa:=by rw [hwa];exact (Below.refl _ _).alloc (Nat.le_refl _) _
   have hbb : Below wa.heap.size wa wb:=by rw [hwb];exact (Below.refl _ _).alloc (Nat.le_refl _) _
   have hb1:=belows hba hbb hba.size
   have hb2:=belows HBw.out hb1 HBw.out.size
   have lo:=(HM2.out.below hb2).look_ok ts uC cl0 (zC _) hok
   rw [hc2] at lo
   simp only [hmem,decide_true] at lo
   have HS:=hid (fun W (hb : Below wb.heap.size wb W)=>rsame_any m (hk1.below (belows hb2 hb hb2.size)) (hk3.below (belows hb2 hb hb2.size)) hee)
   have HB1:=hid hb1
   have HStep : Hid (∀ w4,Below w1.heap.size w1 w4 → Hid (RangeL TS vC w4 b w.heap.size L (done ++ [((x1,x2),some k,l,m)]) todo' ∧ Below w.heap.size w w4) ∧ w4.rangeLeft b w.heap.size = w1.rangeLeft b w.heap.size):=fun w4 h4 =>
    ⟨⟨HRg.out.chg (S:=fun _=>False) (Chg.of_below h4) id id,belows HBw.out h4 HBw.out.size⟩,rangeLeft_keep (h4.block _ HRg.out.lts.1) (h4.block _ HRg.out.lts.2)⟩
   unfold EqPost at HS
   unfold TS vC at hen lo
   dsimp only at hen lo
   clear hs1 hlt hrg1 hg1 hch hx hmem hee hk1 hk3 hc2 hok hba hbb hb1 hb2
   subst hwb
   subst hwa
   unfold TS vC
   dsimp only
   go_wp2_with (go_at_call 72;refine (HS.out _ BLw).mono ?_;rintro e w4 ⟨rfl,hb⟩;have HB4:=hid (HStep.out w4 (belows (belows HB1.out (show Below _ _ _ from BLw) HB1.out.size) hb (by have:=HB1.out.size;simp only [World.size_alloc] at *;omega)));clear hb)
   go_roundw
   case rel=>exact ⟨_,todo',HB4.out.1⟩
   case measure=>rw [HB4.out.2];exact HLt.out
end Go.Proofs.Ytfphiomhlhpphaa
namespace Go.Proofs.Ytfphiomhlhpphaa
open Go Go.RowKit
open Pf (Site Sn ix addk alt keys)
set_option maxRecDepth 100000
set_option maxHeartbeats 2000000
theorem keys_perm {κ β : Type} {A B : List (κ × β)} (h : A.Perm B) (k : κ) : k ∈ keys A ↔ k ∈ keys B:=(h.map (fun x : κ × β=>x.1)).mem_iff
theorem Eq2.perm {A B : List Sn} (h : (keys A).Nodup) (hp : A.Perm B) : Eq2 0 (·= ·) A B :=
 Eq2.of h (((hp.map (fun x : Sn=>x.1)).nodup_iff).1 h) (keys_perm hp) (fun k _=>(Pf.look_perm h hp (k:=k)))
theorem eqv_keys {p q : IV} {n m : Nat} (ok : OkP p n) (hn : (keys p.C).Nodup) (he : Pf.Eqv p.st q.st) {k : Site} (hk : k ∈ keys p.C) : k ∈ keys q.C:=by
 by_cases hb : k ∈ keys q.C
 ·exact hb
 ·have h1:=(ok.bc _ (Pf.mem_look_iff (d:=cl0) hn hk)).2.1
  have h2 : Pf.EqC (Pf.look cl0 p.C k).2 (Pf.look cl0 q.C k).2:=he.ca k
  rw [Pf.look_not hb] at h2
  exact absurd h2.1.eq_nil h1
theorem eqv_called {p q : IV} {n m : Nat} (ok : OkP p n) (okq : OkP q m) (hn : (keys p.C).Nodup) (hm : (keys q.C).Nodup) (he : Pf.Eqv p.st q.st) : Eq2 cl0 EqCl p.C q.C :=
 Eq2.of hn hm (fun k=>⟨eqv_keys (m:=m) ok hn he,eqv_keys (m:=n) okq hm he.symm⟩) (fun k hk=>by
  have h2 : Pf.EqC (Pf.look cl0 p.C k).2 (Pf.look cl0 q.C k).2:=he.ca k
  exact ⟨h2.2,Eq2.perm (ok.bc _ (Pf.mem_look_iff (d:=cl0) hn hk)).1.nd h2.1⟩)
section
variable {w : World} {base base2 n m : Nat} {p q : IV}
theorem isame_any (h : IP w base p) (hq : IP w base2 q) (ok : OkP p n) (okq : OkP q m) (he : Pf.Eqv p.st q.st) :
  Calls Try.prog 49 #[.pointer (some ⟨p.ib,0,none⟩),.pointer (some ⟨q.ib,0,none⟩)] w (EqPost w):=by
 have HX:=hid (fun X (hb : Below w.heap.size w X)=>(show X.cell? ⟨p.ib,0,none⟩ = some (.map (some p.eb)) ∧ X.cell? ⟨q.ib,0,none⟩ = some (.map (some q.eb)) ∧ X.cell? ⟨p.ib,1,none⟩ = some (.map (some p.jb)) ∧ X.cell? ⟨q.ib,1,none⟩ = some (.map (some q.jb)) ∧ X.cell? ⟨p.ib,2,none⟩ = some (.map (some p.cb)) ∧ X.cell? ⟨q.ib,2,none⟩ = some (.map (some q.cb)) from
  ⟨(h.ins.below hb).cell 0,(hq.ins.below hb).cell 0,(h.ins.below hb).cell 1,(hq.ins.below hb).cell 1,(h.ins.below hb).cell 2,(hq.ins.below hb).cell 2⟩))
 have HE:=hid (fun W (hb : Below w.heap.size w W)=>mequalI_any (h.me.below hb) (hq.me.below hb) (Eq2.counts h.me.nd hq.me.nd (fun x hx=>(ok.be x hx).1) (fun x hx=>(okq.be x hx).1) he.en))
 have HJ:=hid (fun W (hb : Below w.heap.size w W)=>mequalS_any (h.mj.below hb) (hq.mj.below hb) (Eq2.counts h.mj.nd hq.mj.nd (fun x hx=>(ok.bj x hx).1) (fun x hx=>(okq.bj x hx).1) he.ju))
 have HC:=hid (fun W (hb : Below w.heap.size w W)=>mequalF_any (h.mc.below hb) (hq.mc.below hb) (fun x hx=>by obtain ⟨b,e,h1,-⟩:=(h.below hb).ml x hx;exact ⟨b,e,h1⟩) (fun x hx=>by obtain ⟨b,e,h1,-⟩:=(hq.below hb).ml x hx;exact ⟨b,e,h1⟩) (eqv_called ok okq h.mc.nd hq.mc.nd he))
 have HBc:=hid (Below.refl w.heap.size w)
 obtain ⟨x0,x1,x2,x3,x4,x5⟩:=HX.out w (Below.refl _ _)
 unfold EqPost at HE HJ HC
 clear h hq ok okq he
 go_enter Try.func49,Try.ntmps49
 go_upto_region 1 with fail
 go_region_held3 (fun X=>X.cell? ⟨p.ib,0,none⟩ = some (.map (some p.eb)) ∧ X.cell? ⟨q.ib,0,none⟩ = some (.map (some q.eb)) ∧ X.cell? ⟨p.ib,1,none⟩ = some (.map (some p.jb)) ∧ X.cell? ⟨q.ib,1,none⟩ = some (.map (some q.jb)) ∧ X.cell? ⟨p.ib,2,none⟩ = some (.map (some p.cb)) ∧ X.cell? ⟨q.ib,2,none⟩ = some (.map (some q.cb)))
  (first|exact ⟨x0,x1,x2,x3,x4,x5⟩|go_keep)
  (first
   | (go_at_call 69;refine (HE.out _ (by first|exact HBc.out|exact Below.drew HBc.out)).mono ?_;rintro e X ⟨rfl,hb⟩;have hbc:=belows (show Below w.heap.size w _ from (by first|exact HBc.out|exact Below.drew HBc.out)) hb (by first|exact HBc.out.size|exact (Below.drew HBc.out).size);clear HBc hb x0 x1 x2 x3 x4 x5;have HBc:=hid hbc;clear hbc;obtain ⟨x0,x1,x2,x3,x4,x5⟩:=HX.out _ HBc.out)
   | (go_at_call 70;refine (HJ.out _ (by first|exact HBc.out|exact Below.drew HBc.out)).mono ?_;rintro e X ⟨rfl,hb⟩;have hbc:=belows (show Below w.heap.size w _ from (by first|exact HBc.out|exact Below.drew HBc.out)) hb (by first|exact HBc.out.size|exact (Below.drew HBc.out).size);clear HBc hb x0 x1 x2 x3 x4 x5;have HBc:=hid hbc;clear hbc;obtain ⟨x0,x1,x2,x3,x4,x5⟩:=HX.out _ HBc.out)
   | (go_at_call 71;refine (HC.out _ (by first|exact HBc.out|exact Below.drew HBc.out)).mono ?_;rintro e X ⟨rfl,hb⟩;have hbc:=belows (show Below w.heap.size w _ from (by first|exact HBc.out|exact Below.drew HBc.out)) hb (by first|exact HBc.out.size|exact (Below.drew HBc.out).size);clear HBc hb x0 x1 x2 x3 x4 x5;have HBc:=hid hbc;clear hbc;obtain ⟨x0,x1,x2,x3,x4,x5⟩:=HX.out _ HBc.out))
 go_wp2
 go_ret
 exact ⟨rfl,by first|exact HBc.out|exact Below.drew HBc.out⟩
theorem same_any {pb qb : Nat} (h : PP w base pb p) (hq : PP w base2 qb q) (ok : OkP p n) (okq : OkP q m) (he : Pf.Eqv p.st q.st) :
  Calls Try.prog 21 #[.pointer (some ⟨pb,0,none⟩),.pointer (some ⟨qb,0,none⟩)] w (EqPost w):=by
 have HX:=hid (fun X (hb : Below w.heap.size w X)=>(show X.cell? ⟨pb,0,none⟩ = some (.pointer (some ⟨p.ib,0,none⟩)) ∧ X.cell? ⟨qb,0,none⟩ = some (.pointer (some ⟨q.ib,0,none⟩)) from ⟨(h.box.below hb).cell 0,(hq.box.below hb).cell 0⟩))
 have HM:=hid (fun k (hk : k = pb ∨ k = qb) W (hb : Below w.heap.size w W)=>(show Calls Try.prog 40 #[.pointer (some ⟨k,0,none⟩)] W (EqPost W) from by rcases hk with rfl|rfl;(·exact (made_yes (h.below hb)).mono (fun e w' ⟨h1,h2⟩=>⟨h1,h2 ▸ Below.refl _ _⟩));(·exact (made_yes (hq.below hb)).mono (fun e w' ⟨h1,h2⟩=>⟨h1,h2 ▸ Below.refl _ _⟩))))
 have HI:=hid (fun W (hb : Below w.heap.size w W)=>isame_any (h.has.below hb) (hq.has.below hb) ok okq he)
 have HBc:=hid (Below.refl w.heap.size w)
 obtain ⟨x0,x1⟩:=HX.out w (Below.refl _ _)
 unfold EqPost at HI HM
 clear h hq ok okq he
 go_enter Try.func21,Try.ntmps21
 go_upto_region 1 with fail
 go_region_held3 (fun X=>X.cell? ⟨pb,0,none⟩ = some (.pointer (some ⟨p.ib,0,none⟩)) ∧ X.cell? ⟨qb,0,none⟩ = some (.pointer (some ⟨q.ib,0,none⟩)))
  (first|exact ⟨x0,x1⟩|go_keep)
  (first
   | (go_at_call 40;refine (HM.out _ (by first|exact .inl rfl|exact .inr rfl) _ (by first|exact HBc.out|exact Below.drew HBc.out)).mono ?_;rintro e X ⟨rfl,hb⟩;have hbc:=belows (show Below w.heap.size w _ from (by first|exact HBc.out|exact Below.drew HBc.out)) hb (by first|exact HBc.out.size|exact (Below.drew HBc.out).size);clear HBc hb x0 x1;have HBc:=hid hbc;clear hbc;obtain ⟨x0,x1⟩:=HX.out _ HBc.out)
   | (go_at_call 49;refine (HI.out _ (by first|exact HBc.out|exact Below.drew HBc.out)).mono ?_;rintro e X ⟨rfl,hb⟩;have hbc:=belows (show Below w.heap.size w _ from (by first|exact HBc.out|exact Below.drew HBc.out)) hb (by first|exact HBc.out.size|exact (Below.drew HBc.out).size);clear HBc hb x0 x1;have HBc:=hid hbc;clear hbc;obtain ⟨x0,x1⟩:=HX.out _ HBc.out))
 go_wp2
 go_ret
 exact ⟨rfl,by first|exact HBc.out|exact Below.drew HBc.out⟩
end
end Go.Proofs.Ytfphiomhlhpphaa
namespace Go.Proofs.Ytfphiomhlhpphaa
open Go Go.RowKit
open Pf (Site Sn ix addk alt keys)
set_option maxRecDepth 100000
set_option maxHeartbeats 2000000
theorem infoInside : (Try.prog.info? 77).map (fun i=>(i.zero,i.size,i.bytes)) = some (some (.agg #[.map none,.map none,.map none]),3,24):=by kernel_rfl
section
variable {w : World} {base base2 n m pb qb : Nat} {p q : IV}
end
end Go.Proofs.Ytfphiomhlhpphaa
namespace Go.Proofs.Ytfphiomhlhpphaa
open Go Go.RowKit
open Pf (Site Sn ix addk alt keys)
set_option maxRecDepth 100000
set_option maxHeartbeats 2000000
theorem uMw : Try.prog.underlying 36 = some (.map TI.t 2):=Try.underlying36
theorem uNw : Try.prog.underlying 37 = some (.map TS.t 2):=Try.underlying37
theorem goesI_any {w : World} {bx : Nat} {f k : Int} (h : BX w bx #[.int .i64 f] 3) : Calls Try.prog 75 #[.int .i64 k,.pointer (some ⟨bx,0,none⟩)] w fun e w'=>e = .returned (.bool (k == f)) ∧ Below w.heap.size w w':=by
 have c0 : w.cell? ⟨bx,0,none⟩ = some (.int .i64 f):=h.cell 0
 clear h
 go_enter Try.func75,Try.ntmps75
 go_wp2
 go_ret
 exact ⟨rfl,Below.refl _ _⟩
theorem goesS_any {w : World} {bx : Nat} {f : Int} {s : Site} (h : BX w bx #[.int .i64 f] 3) : Calls Try.prog 73 #[.agg #[.int .i64 s.1,.int .i64 s.2],.pointer (some ⟨bx,0,none⟩)] w fun e w'=>e = .returned (.bool (s.1 == f)) ∧ Below w.heap.size w w':=by
 obtain ⟨x1,x2⟩:=s
 have c0 : (w.alloc (.cells #[.int .i64 x1,.int .i64 x2] 29)).cell? ⟨bx,0,none⟩ = some (.int .i64 f):=(h.below ((Below.refl _ _).alloc (Nat.le_refl _) _)).cell 0
 clear h
 dsimp only
 go_enter Try.func73,Try.ntmps73
 go_wp2
 go_ret
 exact ⟨rfl,(Below.refl _ _).alloc (Nat.le_refl _) _⟩
theorem Pf.alt_fresh {κ β : Type} [DecidableEq κ] {d : β} : ∀ {l : List (κ × β)} {k : κ} {v : β},¬ k ∈ keys l → alt d l k (fun _=>v) = l ++ [(k,v)]
 | [],_,_,_=>rfl
 | x :: l,k,v,h=>by
  have h1 : ¬ x.1 = k:=fun e=>h (Pf.mem_keys.2 ⟨x,by simp,e⟩)
  show (if x.1 = k then _ else _) = _
  rw [if_neg h1,Pf.alt_fresh (fun e=>h (by obtain ⟨y,hy,e⟩:=Pf.mem_keys.1 e;exact Pf.mem_keys.2 ⟨y,by simp [hy],e⟩))]
  rfl
section
variable {κ β : Type} {T : KT κ} {val : β → Value} {w w1 w4 : World} {b r : Nat} {L done todo : List (κ × β)} {x : κ × β} {kp : κ × β → Bool}
def WoI (T : KT κ) (val : β → Value) (w w1 : World) (b r : Nat) (L : List (κ × β)) (kp : κ × β → Bool) (done got todo : List (κ × β)) : Prop:=RangeL T val w1 b r L done todo ∧ MapL T val w1 w.heap.size (got.filter kp) ∧ Below w.heap.size w w1
theorem WoI.below {got : List (κ × β)} (h : WoI T val w w1 b r L kp done got todo) (hb : Below w1.heap.size w1 w4) : WoI T val w w4 b r L kp done got todo ∧ w4.rangeLeft b r = w1.rangeLeft b r :=
 ⟨⟨h.1.chg (S:=fun _=>False) (Chg.of_below hb) id id,h.2.1.below hb,belows h.2.2 hb h.2.2.size⟩,rangeLeft_keep (hb.block _ h.1.lts.1) (hb.block _ h.1.lts.2)⟩
theorem filter_end {α : Type} (f : α → Bool) (l : List α) (x : α) : (l ++ [x]).filter f = l.filter f ++ if f x = true then [x] else []:=by
 rw [List.filter_append]
 congr 1
 rw [List.filter_cons,List.filter_nil]
theorem WoI.skip (h : WoI T val w w1 b r L kp (done ++ [x]) done todo) (hx : kp x = false) : WoI T val w w1 b r L kp (done ++ [x]) (done ++ [x]) todo:=by
 refine ⟨h.1,?_,h.2.2⟩
 rw [filter_end,hx,if_neg (by decide),List.append_nil]
 exact h.2.1
theorem WoI.put [DecidableEq κ] (h : WoI T val w w1 b r L kp (done ++ [x]) done todo) (hT : T.Is) {t e : TypeId} (ht : Try.prog.underlying t = some (.map T.t e)) (d : β) (hbw : b < w.heap.size) (hr : w.heap.size < r) (hn : L.length < maxLen) (hk : T.ok x.1) (hx : kp x = true) :
  ∃ w5,(Instr.mapUpdate t (.map (some w.heap.size)) (T.mkv x.1) (val x.2)).run Try.prog w1 = .ok () w5 ∧ WoI T val w w5 b r L kp (done ++ [x]) (done ++ [x]) todo ∧ w5.rangeLeft b r = w1.rangeLeft b r:=by
 obtain ⟨h1,h2,h3⟩:=h
 have hp : L.Perm ((done ++ [x]) ++ todo):=by obtain ⟨D,left,cnt,-,-,hp,-⟩:=h1;exact hp
 have hnd : ¬ x.1 ∈ keys (done.filter kp):=by
  intro hk
  obtain ⟨y,hy,e⟩:=Pf.mem_keys.1 hk
  have h5:=((hp.map (fun x : κ × β=>x.1)).nodup_iff).1 h1.map.nd
  rw [List.map_append,List.map_append,List.append_assoc] at h5
  exact (List.nodup_append.1 h5).2.2 _ (Pf.mem_keys.2 ⟨y,(List.mem_filter.1 hy).1,e⟩) _ (by simp) rfl
 have hl : (done.filter kp).length < maxLen:=by
  have:=List.length_filter_le kp done
  have:=hp.length_eq
  simp only [List.length_append] at this
  omega
 obtain ⟨w5,hput,hm5,hg5⟩:=h2.put hT ht d hl hk x.2
 have hc : Chg (fun i=>i = w.heap.size) w1 w5:=Chg.of_grown hg5 (fun k e=>(Option.some.inj e).symm)
 rw [Pf.alt_fresh hnd] at hm5
 refine ⟨w5,hput,⟨h1.chg hc (by omega) (by omega),?_,h3.trans (hc.to_below (B:=w.heap.size) (fun k e=>by omega) h3.size)⟩,rangeLeft_keep (hc.block _ h1.lts.1 (by omega)) (hc.block _ h1.lts.2 (by omega))⟩
 rw [filter_end,hx,if_pos rfl]
 exact hm5
def WoPost (T : KT κ) (val : β → Value) (w : World) (L : List (κ × β)) (kp : κ × β → Bool) (e : Ending) (w' : World) : Prop :=
 e = .returned (.map (some w.heap.size)) ∧ ∃ L',MapL T val w' w.heap.size L' ∧ L'.Perm (L.filter kp) ∧ Below w.heap.size w w'
end
theorem woI_any {w : World} {b bx : Nat} {f : Int} {L : List (Int × Int)} (h : MapL TI vI w b L) (hx : BX w bx #[.int .i64 f] 3) (hl : L.length < maxLen) :
  Calls Try.prog 74 #[.map (some b),.func (.func 75) #[] #[.pointer (some ⟨bx,0,none⟩)]] w (WoPost TI vI w L (fun y=>!(y.1 == f))):=by
 obtain ⟨wm,hwm⟩ : ∃ x,x = w.alloc (.map #[] 0):=⟨_,rfl⟩
 have hbm : Below w.heap.size w wm:=by rw [hwm];exact (Below.refl _ _).alloc (Nat.le_refl _) _
 have hzm : wm.heap.size = w.heap.size + 1:=by rw [hwm];simp
 have hmn : MapL TI vI wm w.heap.size []:=by rw [hwm];exact MapL.new w
 have HMp:=hid (h.below hbm)
 have HM0:=hid h
 have HBX:=hid hx
 have HL:=hid hl
 have HZ:=hid (And.intro hzm (And.intro hmn hbm))
 have HWm:=hid hwm
 have hm1:=run_makeMap (P:=Try.prog) 36 w
 rw [← hwm] at hm1
 clear h hx hl hbm hzm hmn
 go_enter Try.func74,Try.ntmps74
 go_upto_region 2 with fail
 try rw [← HWm.out]
 clear hm1 hwm
 go_wp2_with (at_range;refine wpList_range_L _ rfl _ 36 rfl 2 ti uMw rfl HMp.out ?_;intro w0 hrg0 hb0 hs0)
 have HR0 : Hid (WoI TI vI w w0 b wm.heap.size L (fun y=>!(y.1 == f)) [] [] L):=⟨hrg0,HZ.out.2.1.below hb0,belows HZ.out.2.2 hb0 HZ.out.2.2.size⟩
 clear hrg0 hb0 hs0
 go_frame
 go_loopw [] (fun wr=>∃ done todo : List (Int × Int),Hid (WoI TI vI w wr b wm.heap.size L (fun y=>!(y.1 == f)) done done todo)) (fun wr=>wr.rangeLeft b wm.heap.size)
 case atStart=>exact ⟨[],L,HR0.out⟩
 case round =>
  clear HR0
  obtain ⟨done,todo,HI⟩:=hrel
  go_wp2_with (at_next;refine wpList_next_L _ rfl _ rfl ti rfl HI.out.1 ?_ ?_)
  ·intro hp
   have HP:=hid hp
   clear hp
   go_wp2
   go_ret
   exact ⟨rfl,_,HI.out.2.1,HP.out.symm.filter _,HI.out.2.2⟩
  ·intro k n todo' w1 hx hrg1 hlt hg1 hs1 hen
   have HLt:=hid hlt
   have hch : Chg (fun i=>i = wm.heap.size) wr w1:=Chg.of_grown hg1 (fun k e=>(Option.some.inj e).symm)
   have HW : Hid (WoI TI vI w w1 b wm.heap.size L (fun y=>!(y.1 == f)) (done ++ [(k,n)]) done todo'):=⟨hrg1,HI.out.2.1.chg hch (fun e=>by have:=HZ.out.1;omega),HI.out.2.2.trans (hch.to_below (B:=w.heap.size) (fun k e=>by have:=HZ.out.1;omega) HI.out.2.2.size)⟩
   have HOk:=hid (HM0.out.ok _ (Pf.mem_keys.2 ⟨_,hx,rfl⟩))
   have HBa : Hid (Below w1.heap.size w1 w1):=by show Below _ _ _;exact Below.refl _ _
   have HWa:=hid (HW.out.below HBa.out)
   have HG:=hid (goesI_any (k:=k) (HBX.out.below (belows HW.out.2.2 HBa.out HW.out.2.2.size)))
   unfold TI vI at hen
   dsimp only at hen
   clear hs1 hlt hrg1 hg1 hch hx HI
   obtain ⟨c,hc⟩ : ∃ c,(k == f) = c:=⟨_,rfl⟩
   rw [hc] at HG
   have HC:=hid hc
   clear hc
   unfold TI vI
   dsimp only
   cases c
   ·go_upto_region 6 with (go_at_call 75;refine HG.out.mono ?_;rintro e W2 ⟨rfl,hb⟩;have HB2:=hid hb;clear hb)
    have HW2:=hid (HWa.out.1.below HB2.out)
    obtain ⟨w5,hput,hw5,hl5⟩:=HW2.out.1.put (t:=36) ti uMw 0 HM0.out.lt (by have:=HZ.out.1;omega) HL.out HOk.out (show (!(k == f)) = true by rw [HC.out];rfl)
    have HW5:=hid hw5
    have HL5 : Hid (w5.rangeLeft b wm.heap.size = w1.rangeLeft b wm.heap.size):=by show _ = _;first|rw [hl5,HW2.out.2,HWa.out.2]|rw [hl5,HW2.out.2]
    unfold TI vI at hput
    dsimp only at hput
    clear hw5 hl5
    go_wp2
    go_roundw
    case rel=>exact ⟨_,todo',HW5.out⟩
    case measure=>rw [HL5.out];exact HLt.out
   ·go_wp2_with (go_at_call 75;refine HG.out.mono ?_;rintro e W2 ⟨rfl,hb⟩;have HB2:=hid hb;clear hb)
    have HW2:=hid (HWa.out.1.below HB2.out)
    go_roundw
    case rel=>exact ⟨_,todo',HW2.out.1.skip (show (!(k == f)) = false by rw [HC.out];rfl)⟩
    case measure=>first|(rw [HW2.out.2,HWa.out.2];exact HLt.out)|(rw [HW2.out.2];exact HLt.out)
theorem woS_any {w : World} {b bx : Nat} {f : Int} {L : List (Site × Int)} (h : MapL TS vI w b L) (hx : BX w bx #[.int .i64 f] 3) (hl : L.length < maxLen) :
  Calls Try.prog 76 #[.map (some b),.func (.func 73) #[] #[.pointer (some ⟨bx,0,none⟩)]] w (WoPost TS vI w L (fun y=>!(y.1.1 == f))):=by
 obtain ⟨wm,hwm⟩ : ∃ x,x = w.alloc (.map #[] 0):=⟨_,rfl⟩
 have hbm : Below w.heap.size w wm:=by rw [hwm];exact (Below.refl _ _).alloc (Nat.le_refl _) _
 have hzm : wm.heap.size = w.heap.size + 1:=by rw [hwm];simp
 have hmn : MapL TS vI wm w.heap.size []:=by rw [hwm];exact MapL.new w
 have HMp:=hid (h.below hbm)
 have HM0:=hid h
 have HBX:=hid hx
 have HL:=hid hl
 have HZ:=hid (And.intro hzm (And.intro hmn hbm))
 have HWm:=hid hwm
 have hm1:=run_makeMap (P:=Try.prog) 37 w
 rw [← hwm] at hm1
 clear h hx hl hbm hzm hmn
 go_enter Try.func76,Try.ntmps76
 go_upto_region 2 with fail
 try rw [← HWm.out]
 clear hm1 hwm
 go_wp2_with (at_range;refine wpList_range_L _ rfl _ 37 rfl 2 ts uNw rfl HMp.out ?_;intro w0 hrg0 hb0 hs0)
 have HR0 : Hid (WoI TS vI w w0 b wm.heap.size L (fun y=>!(y.1.1 == f)) [] [] L):=⟨hrg0,HZ.out.2.1.below hb0,belows HZ.out.2.2 hb0 HZ.out.2.2.size⟩
 clear hrg0 hb0 hs0
 go_frame
 go_loopw [] (fun wr=>∃ done todo : List (Site × Int),Hid (WoI TS vI w wr b wm.heap.size L (fun y=>!(y.1.1 == f)) done done todo)) (fun wr=>wr.rangeLeft b wm.heap.size)
 case atStart=>exact ⟨[],L,HR0.out⟩
 case round =>
  clear HR0
  obtain ⟨done,todo,HI⟩:=hrel
  go_wp2_with (at_next;refine wpList_next_L _ rfl _ rfl ts rfl HI.out.1 ?_ ?_)
  ·intro hp
   have HP:=hid hp
   clear hp
   go_wp2
   go_ret
   exact ⟨rfl,_,HI.out.2.1,HP.out.symm.filter _,HI.out.2.2⟩
  ·intro x1 x2 n todo' w1 hx hrg1 hlt hg1 hs1 hen
   have HLt:=hid hlt
   have hch : Chg (fun i=>i = wm.heap.size) wr w1:=Chg.of_grown hg1 (fun k e=>(Option.some.inj e).symm)
   have HW : Hid (WoI TS vI w w1 b wm.heap.size L (fun y=>!(y.1.1 == f)) (done ++ [(((x1,x2) : Site),n)]) done todo'):=⟨hrg1,HI.out.2.1.chg hch (fun e=>by have:=HZ.out.1;omega),HI.out.2.2.trans (hch.to_below (B:=w.heap.size) (fun k e=>by have:=HZ.out.1;omega) HI.out.2.2.size)⟩
   have HOk:=hid (HM0.out.ok _ (Pf.mem_keys.2 ⟨_,hx,rfl⟩))
   have HBa : Hid (Below w1.heap.size w1 (w1.alloc (.cells #[.int .i64 x1,.int .i64 x2] 29))):=by show Below _ _ _;exact (Below.refl _ _).alloc (Nat.le_refl _) _
   have HWa:=hid (HW.out.below HBa.out)
   have HG:=hid (goesS_any (s:=((x1,x2) : Site)) (HBX.out.below (belows HW.out.2.2 HBa.out HW.out.2.2.size)))
   unfold TS vI at hen
   dsimp only at hen
   clear hs1 hlt hrg1 hg1 hch hx HI
   dsimp only at HG
   obtain ⟨c,hc⟩ : ∃ c,(x1 == f) = c:=⟨_,rfl⟩
   rw [hc] at HG
   have HC:=hid hc
   clear hc
   unfold TS vI
   dsimp only
   cases c
   ·go_upto_region 6 with (go_at_call 73;refine HG.out.mono ?_;rintro e W2 ⟨rfl,hb⟩;have HB2:=hid hb;clear hb)
    have HW2:=hid (HWa.out.1.below HB2.out)
    obtain ⟨w5,hput,hw5,hl5⟩:=HW2.out.1.put (t:=37) ts uNw 0 HM0.out.lt (by have:=HZ.out.1;omega) HL.out HOk.out (show (!(x1 == f)) = true by rw [HC.out];rfl)
    have HW5:=hid hw5
    have HL5 : Hid (w5.rangeLeft b wm.heap.size = w1.rangeLeft b wm.heap.size):=by show _ = _;first|rw [hl5,HW2.out.2,HWa.out.2]|rw [hl5,HW2.out.2]
    have hbx : BX (w1.alloc (.cells #[.int .i64 x1,.int .i64 x2] 29)) w1.heap.size #[.int .i64 x1,.int .i64 x2] 29:=BX.new w1 _ _
    have hbx2:=hbx.below HB2.out
    have b0 : W2.cell? ⟨w1.heap.size,0,none⟩ = some (.int .i64 x1):=hbx2.cell 0
    have b1 : W2.cell? ⟨w1.heap.size,1,none⟩ = some (.int .i64 x2):=hbx2.cell 1
    clear hbx hbx2
    unfold TS vI at hput
    dsimp only at hput
    clear hw5 hl5
    go_wp2
    go_roundw
    case rel=>exact ⟨_,todo',HW5.out⟩
    case measure=>rw [HL5.out];exact HLt.out
   ·go_wp2_with (go_at_call 73;refine HG.out.mono ?_;rintro e W2 ⟨rfl,hb⟩;have HB2:=hid hb;clear hb)
    have HW2:=hid (HWa.out.1.below HB2.out)
    go_roundw
    case rel=>exact ⟨_,todo',HW2.out.1.skip (show (!(x1 == f)) = false by rw [HC.out];rfl)⟩
    case measure=>first|(rw [HW2.out.2,HWa.out.2];exact HLt.out)|(rw [HW2.out.2];exact HLt.out)
theorem woC_any {w : World} {b bx : Nat} {f : Int} {L : List (Site × Cl)} (h : MapL TS vC w b L) (hx : BX w bx #[.int .i64 f] 3) (hl : L.length < maxLen) :
  Calls Try.prog 77 #[.map (some b),.func (.func 73) #[] #[.pointer (some ⟨bx,0,none⟩)]] w (WoPost TS vC w L (fun y=>!(y.1.1 == f))):=by
 obtain ⟨wm,hwm⟩ : ∃ x,x = w.alloc (.map #[] 0):=⟨_,rfl⟩
 have hbm : Below w.heap.size w wm:=by rw [hwm];exact (Below.refl _ _).alloc (Nat.le_refl _) _
 have hzm : wm.heap.size = w.heap.size + 1:=by rw [hwm];simp
 have hmn : MapL TS vC wm w.heap.size []:=by rw [hwm];exact MapL.new w
 have HMp:=hid (h.below hbm)
 have HM0:=hid h
 have HBX:=hid hx
 have HL:=hid hl
 have HZ:=hid (And.intro hzm (And.intro hmn hbm))
 have HWm:=hid hwm
 have hm1:=run_makeMap (P:=Try.prog) 75 w
 rw [← hwm] at hm1
 clear h hx hl hbm hzm hmn
 go_enter Try.func77,Try.ntmps77
 go_upto_region 2 with fail
 try rw [← HWm.out]
 clear hm1 hwm
 go_wp2_with (at_range;refine wpList_range_L _ rfl _ 75 rfl 85 ts uC rfl HMp.out ?_;intro w0 hrg0 hb0 hs0)
 have HR0 : Hid (WoI TS vC w w0 b wm.heap.size L (fun y=>!(y.1.1 == f)) [] [] L):=⟨hrg0,HZ.out.2.1.below hb0,belows HZ.out.2.2 hb0 HZ.out.2.2.size⟩
 clear hrg0 hb0 hs0
 go_frame
 go_loopw [] (fun wr=>∃ done todo : List (Site × Cl),Hid (WoI TS vC w wr b wm.heap.size L (fun y=>!(y.1.1 == f)) done done todo)) (fun wr=>wr.rangeLeft b wm.heap.size)
 case atStart=>exact ⟨[],L,HR0.out⟩
 case round =>
  clear HR0
  obtain ⟨done,todo,HI⟩:=hrel
  go_wp2_with (at_next;refine wpList_next_M _ rfl _ rfl ts rfl HI.out.1 ?_ ?_)
  ·intro hp
   have HP:=hid hp
   clear hp
   go_wp2
   go_ret
   exact ⟨rfl,_,HI.out.2.1,HP.out.symm.filter _,HI.out.2.2⟩
  ·rintro ⟨⟨x1,x2⟩,mo,l,m⟩ todo' w1 hx hrg1 hlt hg1 hs1 hen
   have HLt:=hid hlt
   have hch : Chg (fun i=>i = wm.heap.size) wr w1:=Chg.of_grown hg1 (fun k e=>(Option.some.inj e).symm)
   have HW : Hid (WoI TS vC w w1 b wm.heap.size L (fun y=>!(y.1.1 == f)) (done ++ [(((x1,x2) : Site),(mo,l,m))]) done todo'):=⟨hrg1,HI.out.2.1.chg hch (fun e=>by have:=HZ.out.1;omega),HI.out.2.2.trans (hch.to_below (B:=w.heap.size) (fun k e=>by have:=HZ.out.1;omega) HI.out.2.2.size)⟩
   have HOk:=hid (HM0.out.ok _ (Pf.mem_keys.2 ⟨_,hx,rfl⟩))
   have HBa : Hid (Below w1.heap.size w1 ((w1.alloc (.cells #[.int .i64 x1,.int .i64 x2] 29)).alloc (.cells #[.map mo,.bool m] 85))):=by show Below _ _ _;exact belows ((Below.refl _ _).alloc (Nat.le_refl _) _) ((Below.refl _ _).alloc (Nat.le_refl _) _) (by simp only [World.size_alloc];omega)
   have HWa:=hid (HW.out.below HBa.out)
   have HG:=hid (goesS_any (s:=((x1,x2) : Site)) (HBX.out.below (belows HW.out.2.2 HBa.out HW.out.2.2.size)))
   unfold TS vC at hen
   dsimp only at hen
   clear hs1 hlt hrg1 hg1 hch hx HI
   dsimp only at HG
   obtain ⟨c,hc⟩ : ∃ c,(x1 == f) = c:=⟨_,rfl⟩
   rw [hc] at HG
   have HC:=hid hc
   clear hc
   unfold TS vC
   dsimp only
   cases c
   ·go_upto_region 6 with (go_at_call 73;refine HG.out.mono ?_;rintro e W2 ⟨rfl,hb⟩;have HB2:=hid hb;clear hb)
    have HW2:=hid (HWa.out.1.below HB2.out)
    obtain ⟨w5,hput,hw5,hl5⟩:=HW2.out.1.put (t:=75) ts uC cl0 HM0.out.lt (by have:=HZ.out.1;omega) HL.out HOk.out (show (!(x1 == f)) = true by rw [HC.out];rfl)
    have HW5:=hid hw5
    have HL5 : Hid (w5.rangeLeft b wm.heap.size = w1.rangeLeft b wm.heap.size):=by show _ = _;first|rw [hl5,HW2.out.2,HWa.out.2]|rw [hl5,HW2.out.2]
    have hbx : BX ((w1.alloc (.cells #[.int .i64 x1,.int .i64 x2] 29)).alloc (.cells #[.map mo,.bool m] 85)) w1.heap.size #[.int .i64 x1,.int .i64 x2] 29:=(BX.new w1 _ _).below ((Below.refl _ _).alloc (Nat.le_refl _) _)
    have hbx2:=hbx.below HB2.out
    have b0 : W2.cell? ⟨w1.heap.size,0,none⟩ = some (.int .i64 x1):=hbx2.cell 0
    have b1 : W2.cell? ⟨w1.heap.size,1,none⟩ = some (.int .i64 x2):=hbx2.cell 1
    clear hbx hbx2
    have hcx : BX ((w1.alloc (.cells #[.int .i64 x1,.int .i64 x2] 29)).alloc (.cells #[.map mo,.bool m] 85)) (w1.heap.size + 1) #[.map mo,.bool m] 85:=by have:=BX.new (w1.alloc (.cells #[.int .i64 x1,.int .i64 x2] 29)) #[.map mo,.bool m] 85;rw [World.size_alloc] at this;exact this
    have hcx2:=hcx.below HB2.out
    have b2 : W2.cell? ⟨w1.heap.size + 1,0,none⟩ = some (.map mo):=hcx2.cell 0
    have b3 : W2.cell? ⟨w1.heap.size + 1,1,none⟩ = some (.bool m):=hcx2.cell 1
    clear hcx hcx2
    unfold TS vC at hput
    dsimp only at hput
    clear hw5 hl5
    go_wp2
    go_roundw
    case rel=>exact ⟨_,todo',HW5.out⟩
    case measure=>rw [HL5.out];exact HLt.out
   ·go_wp2_with (go_at_call 73;refine HG.out.mono ?_;rintro e W2 ⟨rfl,hb⟩;have HB2:=hid hb;clear hb)
    have HW2:=hid (HWa.out.1.below HB2.out)
    go_roundw
    case rel=>exact ⟨_,todo',HW2.out.1.skip (show (!(x1 == f)) = false by rw [HC.out];rfl)⟩
    case measure=>first|(rw [HW2.out.2,HWa.out.2];exact HLt.out)|(rw [HW2.out.2];exact HLt.out)
end Go.Proofs.Ytfphiomhlhpphaa
namespace Go.Proofs.Ytfphiomhlhpphaa
open Go Go.RowKit
open Pf (Site Sn ix addk alt keys)
set_option maxRecDepth 100000
set_option maxHeartbeats 2000000
theorem kp_look {κ β : Type} [DecidableEq κ] {d : β} {L L' : List (κ × β)} {g : κ → Bool} (hn : (keys L).Nodup) (hp : L'.Perm (L.filter (fun y=>!g y.1))) (k : κ) : Pf.look d L' k = if g k = true then d else Pf.look d L k:=by
 have h1 : (keys L').Nodup:=((hp.map (fun x : κ × β=>x.1)).nodup_iff).2 (Pf.nodup_filter hn _)
 rw [Pf.look_perm h1 hp,Pf.look_filter L (fun k=>!g k) k]
 cases g k
 ·rfl
 ·rfl
theorem set_at (w : World) (b j : Nat) (v : Value) : Chg (fun i=>i = b) w (w.setCell ⟨b,j,none⟩ v):=Chg.set (S:=fun i=>i = b) (p:=⟨b,j,none⟩) (Chg.refl _ _) (.inl rfl) v
theorem kp_mem {κ β : Type} {L L' : List (κ × β)} {g : κ × β → Bool} (hp : L'.Perm (L.filter g)) {x : κ × β} (hx : x ∈ L') : x ∈ L:=(List.mem_filter.1 (hp.mem_iff.1 hx)).1
theorem kp_len {κ β : Type} {L L' : List (κ × β)} {g : κ × β → Bool} (hp : L'.Perm (L.filter g)) : L'.length ≤ L.length:=by
 rw [hp.length_eq]
 exact List.length_filter_le _ _
def Left (w : World) (base n : Nat) (p : IV) (t : Pf.St) (e : Ending) (w' : World) : Prop :=
 e = .returned (.tuple #[]) ∧ ∃ p',p'.ib = p.ib ∧ IP w' base p' ∧ OkP p' n ∧ p'.st = t ∧ Chg p.foot w w' ∧ ∀ i,p'.foot i → p.foot i ∨ w.heap.size ≤ i
section
variable {w w' : World} {base n : Nat} {p : IV} {b1 b2 b3 : Nat} {f : Int} {L1 : List Sn} {L2 : List (Site × Int)} {L3 : List (Site × Cl)}
theorem Left.mk (h : IP w base p) (hw : base ≤ w.heap.size) (ok : OkP p n) (hc : Chg (fun i=>i = p.ib) w w') (hi : BX w' p.ib #[.map (some b1),.map (some b2),.map (some b3)] 77)
  (h1 : MapL TI vI w' b1 L1) (h2 : MapL TS vI w' b2 L2) (h3 : MapL TS vC w' b3 L3) (l1 : w.heap.size ≤ b1) (l2 : b1 < b2) (l3 : b2 < b3)
  (p1 : L1.Perm (p.E.filter (fun y=>!(y.1 == f)))) (p2 : L2.Perm (p.J.filter (fun y=>!(y.1.1 == f)))) (p3 : L3.Perm (p.C.filter (fun y=>!(y.1.1 == f)))) : Left w base n p (p.st.forget f) (.returned (.tuple #[])) w':=by
 have hml : ∀ x ∈ L3,∃ b,x.2.1 = some b ∧ MapL TI vI w' b x.2.2.1 ∧ b < w.heap.size:=fun x hx=>by
  obtain ⟨b,e,h4,-⟩:=h.ml x (kp_mem p3 hx)
  exact ⟨b,e,h4.chg hc (map_ne h4 h.ins),h4.lt⟩
 refine ⟨rfl,⟨p.ib,b1,b2,b3,L1,L2,L3⟩,rfl,⟨hi,h1,h2,h3,fun x hx=>?_,fun x hx y hy=>h.ap x (kp_mem p3 hx) y (kp_mem p3 hy),by show b1 ≠ b2;omega,by show b1 ≠ b3;omega,by show b2 ≠ b3;omega,?_⟩,⟨fun x hx=>ok.be x (kp_mem p1 hx),fun x hx=>ok.bj x (kp_mem p2 hx),fun x hx=>ok.bc x (kp_mem p3 hx),Nat.le_trans (kp_len p1) ok.le,Nat.le_trans (kp_len p2) ok.lj,Nat.le_trans (kp_len p3) ok.lc⟩,?_,hc.mono (fun i _ e=>.inl e),?_⟩
 ·obtain ⟨b,e,h4,h5⟩:=hml x hx
  exact ⟨b,e,h4,by show b ≠ b1;omega,by show b ≠ b2;omega,by show b ≠ b3;omega⟩
 ·rintro k (e|e|e|e|⟨x,hx,e⟩)
  ·exact h.low k (.inl e)
  ·rw [e];show base ≤ b1;omega
  ·rw [e];show base ≤ b2;omega
  ·rw [e];show base ≤ b3;omega
  ·exact h.low k (.inr (.inr (.inr (.inr ⟨x,kp_mem p3 hx,e⟩))))
 ·show (⟨_,_,_⟩ : Pf.St) = ⟨_,_,_⟩
  congr 1
  ·funext g
   refine (kp_look (d:=(0 : Int)) (g:=fun g=>g == f) h.me.nd p1 g).trans ?_
   by_cases e : g = f
   ·rw [if_pos (by simp [e]),if_pos e]
   ·rw [if_neg (by simp [e]),if_neg e]
    rfl
  ·funext g
   refine (kp_look (d:=(0 : Int)) (g:=fun g : Site=>g.1 == f) h.mj.nd p2 g).trans ?_
   by_cases e : g.1 = f
   ·rw [if_pos (by simp [e]),if_pos e]
   ·rw [if_neg (by simp [e]),if_neg e]
    rfl
  ·funext g
   have:=kp_look (d:=cl0) (g:=fun g : Site=>g.1 == f) h.mc.nd p3 g
   show (Pf.look cl0 L3 g).2 = _
   rw [this]
   by_cases e : g.1 = f
   ·rw [if_pos (by simp [e]),if_pos e]
    rfl
   ·rw [if_neg (by simp [e]),if_neg e]
    rfl
 ·rintro k (e|e|e|e|⟨x,hx,e⟩)
  ·exact .inl (.inl e)
  ·refine .inr ?_
   rw [e];show w.heap.size ≤ b1;omega
  ·refine .inr ?_
   rw [e];show w.heap.size ≤ b2;omega
  ·refine .inr ?_
   rw [e];show w.heap.size ≤ b3;omega
  ·exact .inl (.inr (.inr (.inr (.inr ⟨x,kp_mem p3 hx,e⟩))))
end
section
variable {w : World} {base pb n : Nat} {p : IV}
theorem iforget_any (h : IP w base p) (hw : base ≤ w.heap.size) (ok : OkP p n) (hn : n < 9000000000000) (f : Int) : Calls Try.prog 50 #[.pointer (some ⟨p.ib,0,none⟩),.int .i64 f] w (Left w base n p (p.st.forget f)):=by
 obtain ⟨w1,hw1⟩ : ∃ x,x = w.alloc (.cells #[.int .i64 f] 3):=⟨_,rfl⟩
 have hb1 : Below w.heap.size w w1:=by rw [hw1];exact (Below.refl _ _).alloc (Nat.le_refl _) _
 have bx : BX w1 w.heap.size #[.int .i64 f] 3:=by rw [hw1];exact BX.new w _ _
 have HH:=hid h
 have HOk:=hid ok
 have HW:=hid hw
 have HB1:=hid hb1
 have HBx:=hid bx
 have HW1:=hid hw1
 have HN : Hid (p.E.length < maxLen ∧ p.J.length < maxLen ∧ p.C.length < maxLen):=by show _ ∧ _;have:=ok.le;have:=ok.lj;have:=ok.lc;unfold maxLen;omega
 have HSz : Hid (p.ib < w.heap.size):=h.ins.sz
 have H1:=hid (woI_any (h.me.below hb1) bx HN.out.1)
 have HI1:=hid (h.ins.below hb1)
 have x0 : w1.cell? ⟨p.ib,0,none⟩ = some (.map (some p.eb)):=HI1.out.cell 0
 unfold WoPost at H1
 clear h hw ok hn hb1 bx hw1
 go_enter Try.func50,Try.ntmps50
 go_upto_region 2 with fail
 rw [← HW1.out]
 go_upto_region 3 with (go_at_call 74;refine H1.out.mono ?_;rintro e w2 ⟨rfl,L1,hm,hp,hb⟩;have HM1:=hid hm;have HP1:=hid hp;have HB2:=hid hb;have hi2:=HI1.out.below hb;have HI2:=hid hi2;clear x0;have x0 : w2.cell? ⟨p.ib,0,none⟩ = some (.map (some p.eb)):=hi2.cell 0;have f0 : w2.frozen? ⟨p.ib,0,none⟩ = false:=hi2.frozen 0;clear hm hp hb hi2)
 refine region_named fun W2 hW2=>?_
 have HC2 : Hid (Chg (fun i=>i = p.ib) w W2):=by show Chg _ _ _;rw [hW2];exact ((Chg.of_below HB1.out).trans (Chg.of_below (S:=fun _=>False) HB2.out) (fun i e=>e.elim)).trans (set_at _ _ _ _) (fun i e=>.inl e)
 have HJ2 : Hid (BX W2 p.ib #[.map (some w1.heap.size),.map (some p.jb),.map (some p.cb)] 77):=by show BX _ _ _ _;rw [hW2];exact box_set HI2.out 0 (.map (some w1.heap.size))
 have HD2 : Hid (Chg (fun i=>i = p.ib) w2 W2):=by show Chg _ _ _;rw [hW2];exact set_at _ _ _ _
 have HM2 : Hid (MapL TI vI W2 w1.heap.size L1):=HM1.out.chg HD2.out (map_ne HM1.out HI2.out)
 have HBx2 : Hid (BX W2 w.heap.size #[.int .i64 f] 3):=(HBx.out.below HB2.out).chg HD2.out (fun e=>by have:=HSz.out;omega)
 have HZ2 : Hid (w1.heap.size < W2.heap.size):=HM2.out.lt
 have H3:=hid (woS_any (HH.out.mj.chg HC2.out (map_ne HH.out.mj HH.out.ins)) HBx2.out HN.out.2.1)
 have y1 : W2.cell? ⟨p.ib,1,none⟩ = some (.map (some p.jb)):=HJ2.out.cell 1
 unfold WoPost at H3
 clear x0 f0 H1 hW2
 go_upto_region 4 with (go_at_call 76;refine H3.out.mono ?_;rintro e w3 ⟨rfl,L2,hm,hp,hb⟩;have HM3:=hid hm;have HP3:=hid hp;have HB3:=hid hb;have hi3:=HJ2.out.below hb;have HI3:=hid hi3;clear y1;have y1 : w3.cell? ⟨p.ib,1,none⟩ = some (.map (some p.jb)):=hi3.cell 1;have f1 : w3.frozen? ⟨p.ib,1,none⟩ = false:=hi3.frozen 1;clear hm hp hb hi3)
 refine region_named fun W3 hW3=>?_
 have HJ3 : Hid (BX W3 p.ib #[.map (some w1.heap.size),.map (some W2.heap.size),.map (some p.cb)] 77):=by show BX _ _ _ _;rw [hW3];exact box_set HI3.out 1 (.map (some W2.heap.size))
 have HD3 : Hid (Chg (fun i=>i = p.ib) w3 W3):=by show Chg _ _ _;rw [hW3];exact set_at _ _ _ _
 have HE3 : Hid (Chg (fun i=>i = p.ib) W2 W3):=(Chg.of_below HB3.out).trans HD3.out (fun i e=>.inl e)
 have HC3 : Hid (Chg (fun i=>i = p.ib) w W3):=HC2.out.trans HE3.out (fun i e=>.inl e)
 have HN3 : Hid (MapL TI vI W3 w1.heap.size L1):=HM2.out.chg HE3.out (map_ne HM2.out HJ2.out)
 have HM4 : Hid (MapL TS vI W3 W2.heap.size L2):=HM3.out.chg HD3.out (map_ne HM3.out HI3.out)
 have HBx3 : Hid (BX W3 w.heap.size #[.int .i64 f] 3):=HBx2.out.chg HE3.out (fun e=>by have:=HSz.out;omega)
 have HZ3 : Hid (W2.heap.size < W3.heap.size):=HM4.out.lt
 have H4:=hid (woC_any (HH.out.mc.chg HC3.out (map_ne HH.out.mc HH.out.ins)) HBx3.out HN.out.2.2)
 have z2 : W3.cell? ⟨p.ib,2,none⟩ = some (.map (some p.cb)):=HJ3.out.cell 2
 unfold WoPost at H4
 clear y1 f1 H3 hW3
 go_wp2_with (go_at_call 77;refine H4.out.mono ?_;rintro e w4 ⟨rfl,L3,hm,hp,hb⟩;have HM5:=hid hm;have HP5:=hid hp;have HB4:=hid hb;have hi4:=HJ3.out.below hb;have HI4:=hid hi4;clear z2;have z2 : w4.cell? ⟨p.ib,2,none⟩ = some (.map (some p.cb)):=hi4.cell 2;have f2 : w4.frozen? ⟨p.ib,2,none⟩ = false:=hi4.frozen 2;clear hm hp hb hi4)
 go_end0
 have hd4 : Chg (fun i=>i = p.ib) w4 (w4.setCell ⟨p.ib,2,none⟩ (.map (some W3.heap.size))):=set_at _ _ _ _
 have he4 : Chg (fun i=>i = p.ib) W3 _:=(Chg.of_below HB4.out).trans hd4 (fun i e=>.inl e)
 exact Left.mk HH.out HW.out HOk.out (HC3.out.trans he4 (fun i e=>.inl e)) (box_set HI4.out 2 (.map (some W3.heap.size))) (HN3.out.chg he4 (map_ne HN3.out HJ3.out)) (HM4.out.chg he4 (map_ne HM4.out HJ3.out)) (HM5.out.chg hd4 (map_ne HM5.out HI4.out)) HB1.out.size HZ2.out HZ3.out HP1.out HP3.out HP5.out
theorem forget_any (h : PP w base pb p) (hw : base ≤ w.heap.size) (ok : OkP p n) (hn : n < 9000000000000) (f : Int) :
  Calls Try.prog 22 #[.pointer (some ⟨pb,0,none⟩),.int .i64 f] w fun e w'=>e = .returned (.tuple #[]) ∧ Step w w' base pb p n (p.st.forget f):=by
 have HM:=hid (made_yes h)
 have HF:=hid (iforget_any h.has hw ok hn f)
 have x0 : w.cell? ⟨pb,0,none⟩ = some (.pointer (some ⟨p.ib,0,none⟩)):=h.box.cell 0
 have HH:=hid h
 unfold Left at HF
 clear h hw ok hn
 go_enter Try.func22,Try.ntmps22
 go_wp2_with (first|(go_at_call 40;refine HM.out.mono ?_;rintro e X ⟨rfl,hXe⟩;replace hXe:=hXe.symm;subst hXe)|(go_at_call 50;refine HF.out.mono ?_;rintro e w1 ⟨rfl,p',hib,hip,hok,hst,hc,hf⟩;have HR:=hid (And.intro hib (And.intro hip (And.intro hok (And.intro hst (And.intro hc hf)))));clear hib hip hok hst hc hf))
 go_end0
 obtain ⟨hib,hip,hok,hst,hc,hf⟩:=HR.out
 exact ⟨rfl,p',⟨by rw [hib];exact HH.out.box.chg hc HH.out.off,hip,HH.out.low⟩,hok,hst,hc,hf⟩
end
end Go.Proofs.Ytfphiomhlhpphaa
namespace Go.Proofs.Ytfphiomhlhpphaa
open Go.Shelf
def Sh.cloneI_ren : Go.Shelf.Ren:=⟨fun|5=>64|7=>82|n=>n,fun|4=>4|20=>20|23=>73|25=>3|3=>2|n=>n,fun|n=>n⟩
theorem Sh.cloneI : Go.Proofs.SlLaysW.n5 Try.prog Sh.cloneI_ren:={
 mixed:=by kernel_rfl
 f5:=⟨ "maps.Clone[tabard/profile.table[int],int,int64]",by decide,Try.func64.trans (congrArg some (by kernel_rfl))⟩
 f7:=Try.func82.trans (congrArg some (by kernel_rfl))
 t4:=Try.underlying4
 a4:=Try.isAgg4
 z4:=Try.sizeOf4
 v4:=Try.zeroValue4
 t20:=Try.underlying20
 a20:=Try.isAgg20
 z20:=Try.sizeOf20
 v20:=Try.zeroValue20
 t23:=Try.underlying73
 a23:=Try.isAgg73
 z23:=Try.sizeOf73
 v23:=Try.zeroValue73 }
def Sh.cloneS_ren : Go.Shelf.Ren:=⟨fun|5=>65|7=>82|n=>n,fun|4=>4|20=>20|23=>74|25=>29|3=>2|n=>n,fun|n=>n⟩
theorem Sh.cloneS : Go.Proofs.SlLaysW.n5 Try.prog Sh.cloneS_ren:={
 mixed:=by kernel_rfl
 f5:=⟨ "maps.Clone[tabard/profile.table[tabard/api.Site],tabard/api.Site,int64]",by decide,Try.func65.trans (congrArg some (by kernel_rfl))⟩
 f7:=Try.func82.trans (congrArg some (by kernel_rfl))
 t4:=Try.underlying4
 a4:=Try.isAgg4
 z4:=Try.sizeOf4
 v4:=Try.zeroValue4
 t20:=Try.underlying20
 a20:=Try.isAgg20
 z20:=Try.sizeOf20
 v20:=Try.zeroValue20
 t23:=Try.underlying74
 a23:=Try.isAgg74
 z23:=Try.sizeOf74
 v23:=Try.zeroValue74 }
end Go.Proofs.Ytfphiomhlhpphaa
namespace Go.Proofs.Ytfphiomhlhpphaa
open Go Go.RowKit
open Pf (Site Sn ix addk alt keys)
set_option maxRecDepth 100000
set_option maxHeartbeats 2000000
theorem mcloneI_any {w : World} {b : Nat} {L : List Sn} (h : MapL TI vI w b L) : Calls Try.prog 64 #[.map (some b)] w fun e w'=>e = .returned (.map (some w.heap.size)) ∧ MapL TI vI w' w.heap.size L ∧ Below w.heap.size w w':=by
 obtain ⟨D,h1,h2⟩:=h
 refine (show Calls Try.prog 64 _ _ _ from AnyW.maps_Clone_owns Sh.cloneI TI.t R0 b L.length D w h1).mono ?_
 rintro e w' ⟨he,h3,-,h4⟩
 exact ⟨he,⟨D,h3,h2⟩,h4⟩
theorem mcloneS_any {w : World} {b : Nat} {L : List (Site × Int)} (h : MapL TS vI w b L) : Calls Try.prog 65 #[.map (some b)] w fun e w'=>e = .returned (.map (some w.heap.size)) ∧ MapL TS vI w' w.heap.size L ∧ Below w.heap.size w w':=by
 obtain ⟨D,h1,h2⟩:=h
 refine (show Calls Try.prog 65 _ _ _ from AnyW.maps_Clone_owns Sh.cloneS TS.t R0 b L.length D w h1).mono ?_
 rintro e w' ⟨he,h3,-,h4⟩
 exact ⟨he,⟨D,h3,h2⟩,h4⟩
theorem makeC (w : World) (n : Int) : (Instr.makeMap 75 (some (.int .i64 n))).run Try.prog w = .ok (.map (some w.heap.size)) (w.alloc (.map #[] 0)):=by
 simp [Instr.makeMap,run_underlying uC,asInt,asIntOf]
def cut (x : Site × Cl) : Site × (List Sn × Bool):=(x.1,x.2.2)
structure CI (w wr : World) (p : IV) (done got todo C' : List (Site × Cl)) : Prop where
 rg : RangeL TS vC wr p.cb (w.heap.size + 1) p.C done todo
 mc : MapL TS vC wr w.heap.size C'
 eq : C'.map cut = got.map cut
 ml : ∀ x ∈ C',∃ b,x.2.1 = some b ∧ MapL TI vI wr b x.2.2.1 ∧ w.heap.size + 1 < b
 ap : ∀ x ∈ C',∀ y ∈ C',x.2.1 = y.2.1 → x.1 = y.1
 bl : Below w.heap.size w wr
section
variable {w wr w4 : World} {p : IV} {done got todo C' : List (Site × Cl)}
theorem CI.below (h : CI w wr p done got todo C') (hb : Below wr.heap.size wr w4) : CI w w4 p done got todo C' ∧ w4.rangeLeft p.cb (w.heap.size + 1) = wr.rangeLeft p.cb (w.heap.size + 1) :=
 ⟨⟨h.rg.chg (S:=fun _=>False) (Chg.of_below hb) id id,h.mc.below hb,h.eq,fun x hx=>by obtain ⟨b,e,h1,h2⟩:=h.ml x hx;exact ⟨b,e,h1.below hb,h2⟩,h.ap,belows h.bl hb h.bl.size⟩,rangeLeft_keep (hb.block _ h.rg.lts.1) (hb.block _ h.rg.lts.2)⟩
theorem cut_keys {A B : List (Site × Cl)} (h : A.map cut = B.map cut) : keys A = keys B:=by
 have:=congrArg (List.map (fun x : Site × (List Sn × Bool)=>x.1)) h
 rw [List.map_map,List.map_map] at this
 exact this
theorem CI.put {x : Site × Cl} {b' : Nat} (h : CI w wr p (done ++ [x]) done todo C') (hcb : p.cb < w.heap.size) (hn : p.C.length < maxLen) (hk : TS.ok x.1) (hm : MapL TI vI wr b' x.2.2.1) (hz : w.heap.size + 1 < b') (hfr : ∀ y ∈ C',y.2.1 ≠ some b') :
  ∃ w5,(Instr.mapUpdate 75 (.map (some w.heap.size)) (TS.mkv x.1) (vC (some b',x.2.2))).run Try.prog wr = .ok () w5 ∧ CI w w5 p (done ++ [x]) (done ++ [x]) todo (C' ++ [(x.1,(some b',x.2.2))]) ∧ w5.rangeLeft p.cb (w.heap.size + 1) = wr.rangeLeft p.cb (w.heap.size + 1) ∧ Chg (fun i=>i = w.heap.size) wr w5:=by
 have hp : p.C.Perm ((done ++ [x]) ++ todo):=by obtain ⟨D,left,cnt,-,-,hp,-⟩:=h.rg;exact hp
 have hnd : ¬ x.1 ∈ keys C':=by
  rw [cut_keys h.eq]
  intro hk
  obtain ⟨y,hy,e⟩:=Pf.mem_keys.1 hk
  have h5:=((hp.map (fun x : Site × Cl=>x.1)).nodup_iff).1 h.rg.map.nd
  rw [List.map_append,List.map_append,List.append_assoc] at h5
  exact (List.nodup_append.1 h5).2.2 _ (Pf.mem_keys.2 ⟨y,hy,e⟩) _ (by simp) rfl
 have hl : C'.length < maxLen:=by
  have h1:=congrArg List.length h.eq
  rw [List.length_map,List.length_map] at h1
  have:=hp.length_eq
  simp only [List.length_append] at this
  omega
 obtain ⟨w5,hput,hm5,hg5⟩:=h.mc.put ts uC cl0 hl hk (some b',x.2.2)
 have hc : Chg (fun i=>i = w.heap.size) wr w5:=Chg.of_grown hg5 (fun k e=>(Option.some.inj e).symm)
 rw [Pf.alt_fresh hnd] at hm5
 refine ⟨w5,hput,⟨h.rg.chg hc (by omega) (by omega),hm5,?_,fun y hy=>?_,fun y hy z hz2 e=>?_,h.bl.trans (hc.to_below (B:=w.heap.size) (fun k e=>by omega) h.bl.size)⟩,rangeLeft_keep (hc.block _ h.rg.lts.1 (by omega)) (hc.block _ h.rg.lts.2 (by omega)),hc⟩
 ·rw [List.map_append,List.map_append,h.eq]
  rfl
 ·rcases List.mem_append.1 hy with hy|hy
  ·obtain ⟨b,e,h1,h2⟩:=h.ml y hy
   exact ⟨b,e,h1.chg hc (by omega),h2⟩
  ·rw [List.mem_singleton.1 hy]
   exact ⟨b',rfl,hm.chg hc (by omega),hz⟩
 ·rcases List.mem_append.1 hy with hy|hy <;> rcases List.mem_append.1 hz2 with hz2|hz2
  ·exact h.ap y hy z hz2 e
  ·rw [List.mem_singleton.1 hz2] at e
   exact absurd e (hfr y hy)
  ·rw [List.mem_singleton.1 hy] at e
   exact absurd e.symm (hfr z hz2)
  ·rw [List.mem_singleton.1 hy,List.mem_singleton.1 hz2]
def CopyP (w : World) (n : Nat) (p : IV) (e : Ending) (w' : World) : Prop:=∃ p',e = .returned (.pointer (some ⟨p'.ib,0,none⟩)) ∧ IP w' w.heap.size p' ∧ OkP p' n ∧ p'.st = p.st ∧ Below w.heap.size w w'
theorem CopyP.mk {X : World} {n b1 b2 : Nat} (ok : OkP p n) (hd : (keys p.C).Nodup) (h : CI w wr p done done todo C') (hp : p.C.Perm done) (hb : Below wr.heap.size wr X) (hE : MapL TI vI X b1 p.E) (hJ : MapL TS vI X b2 p.J) (l1 : wr.heap.size ≤ b1) (l2 : wr.heap.size ≤ b2) (hne : b1 ≠ b2) :
  CopyP w n p (.returned (.pointer (some ⟨X.heap.size,0,none⟩))) (X.alloc (.cells #[.map (some b1),.map (some b2),.map (some w.heap.size)] 77)):=by
 have hX:=(h.below hb).1
 have ha : Below X.heap.size X (X.alloc (.cells #[.map (some b1),.map (some b2),.map (some w.heap.size)] 77)):=(Below.refl _ _).alloc (Nat.le_refl _) _
 have hY:=(hX.below ha).1
 have hz:=h.bl.size
 have hz2:=h.rg.lts.2
 have hcl : ∀ x ∈ C',∃ y ∈ p.C,y.1 = x.1 ∧ y.2.2 = x.2.2:=fun x hx=>by
  have : cut x ∈ done.map cut:=h.eq ▸ List.mem_map.2 ⟨x,hx,rfl⟩
  obtain ⟨y,hy,e⟩:=List.mem_map.1 this
  exact ⟨y,hp.mem_iff.2 hy,congrArg (·.1) e,congrArg (·.2) e⟩
 have hlen : C'.length = p.C.length:=by
  have h1:=congrArg List.length h.eq
  rw [List.length_map,List.length_map] at h1
  rw [h1,hp.length_eq]
 refine ⟨⟨X.heap.size,b1,b2,w.heap.size,p.E,p.J,C'⟩,rfl,⟨BX.new X _ _,hE.below ha,hJ.below ha,hY.mc,fun x hx=>?_,hY.ap,hne,by show b1 ≠ w.heap.size;omega,by show b2 ≠ w.heap.size;omega,?_⟩,⟨ok.be,ok.bj,fun x hx=>?_,ok.le,ok.lj,by show C'.length ≤ n;rw [hlen];exact ok.lc⟩,?_,hY.bl⟩
 ·obtain ⟨b,e,h1,h2⟩:=hY.ml x hx
  obtain ⟨b',e',h3,-⟩:=h.ml x hx
  rw [e] at e'
  obtain rfl:=Option.some.inj e'
  have:=h3.lt
  exact ⟨b,e,h1,by show b ≠ b1;omega,by show b ≠ b2;omega,by show b ≠ w.heap.size;omega⟩
 ·rintro k (e|e|e|e|⟨x,hx,e⟩)
  ·rw [e];show w.heap.size ≤ X.heap.size;have:=hX.bl.size;omega
  ·rw [e];show w.heap.size ≤ b1;omega
  ·rw [e];show w.heap.size ≤ b2;omega
  ·rw [e];exact Nat.le_refl _
  ·obtain ⟨b,e',h1,h2⟩:=h.ml x hx
   rw [e] at e'
   obtain rfl:=Option.some.inj e'
   omega
 ·obtain ⟨y,hy,e1,e2⟩:=hcl x hx
  rw [← e2]
  exact ok.bc y hy
 ·show (⟨_,_,_⟩ : Pf.St) = ⟨_,_,_⟩
  congr 1
  funext s
  by_cases hs : s ∈ keys C'
  ·have hm:=Pf.mem_look_iff (d:=cl0) h.mc.nd hs
   obtain ⟨y,hy,e1,e2⟩:=hcl _ hm
   rw [← e2,← Pf.look_mem (d:=cl0) hd hy,e1]
  ·have hk : ¬ s ∈ keys p.C:=fun e=>hs (by rw [cut_keys h.eq];exact (keys_perm hp s).1 e)
   rw [Pf.look_not hs,Pf.look_not hk]
end
end Go.Proofs.Ytfphiomhlhpphaa
namespace Go.Proofs.Ytfphiomhlhpphaa
open Go Go.RowKit
open Pf (Site Sn ix addk alt keys)
set_option maxRecDepth 100000
set_option maxHeartbeats 2000000
section
variable {w : World} {base pb n : Nat} {p : IV}
theorem iclone_any (h : IP w base p) (ok : OkP p n) (hn : n < 9000000000000) : Calls Try.prog 47 #[.pointer (some ⟨p.ib,0,none⟩)] w (CopyP w n p):=by
 obtain ⟨wm,hwm⟩ : ∃ x,x = w.alloc (.map #[] 0):=⟨_,rfl⟩
 have hbm : Below w.heap.size w wm:=by rw [hwm];exact (Below.refl _ _).alloc (Nat.le_refl _) _
 have hzm : wm.heap.size = w.heap.size + 1:=by rw [hwm];simp
 have hmn : MapL TS vC wm w.heap.size []:=by rw [hwm];exact MapL.new w
 have HH:=hid h
 have HM:=hid (h.below hbm)
 have HOk:=hid ok
 have HCb : Hid (p.cb < w.heap.size):=h.mc.lt
 have HN : Hid (p.C.length < maxLen):=by show _ < _;have:=ok.lc;unfold maxLen;omega
 have HZ:=hid (And.intro hzm (And.intro hmn hbm))
 have HWm:=hid hwm
 have x2 : w.cell? ⟨p.ib,2,none⟩ = some (.map (some p.cb)):=h.ins.cell 2
 have xm : wm.cell? ⟨p.ib,2,none⟩ = some (.map (some p.cb)):=(h.ins.below hbm).cell 2
 have ln:=h.mc.len uC
 have hm1:=makeC w (p.C.length : Int)
 rw [← hwm] at hm1
 clear h ok hn hbm hzm hmn hwm
 go_enter Try.func47,Try.ntmps47
 go_upto_region 2 with fail
 clear hm1 ln x2
 go_wp2_with (at_range;refine wpList_range_L _ rfl _ 75 rfl 85 ts uC rfl HM.out.mc ?_;intro w0 hrg0 hb0 hs0)
 have HR0 : Hid (CI w w0 p [] [] p.C []):=⟨by have:=HZ.out.1;rw [this] at hrg0;exact hrg0,HZ.out.2.1.below hb0,rfl,(fun x hx=>by cases hx),(fun x hx=>by cases hx),belows HZ.out.2.2 hb0 HZ.out.2.2.size⟩
 clear hrg0 hb0 hs0 xm
 rw [HZ.out.1]
 go_frame
 go_loopw [] (fun wr=>∃ done todo C',Hid (CI w wr p done done todo C')) (fun wr=>wr.rangeLeft p.cb (w.heap.size + 1))
 case atStart=>exact ⟨[],p.C,[],HR0.out⟩
 case round =>
  clear HR0
  obtain ⟨done,todo,C',HI⟩:=hrel
  go_wp2_with (at_next;refine wpList_next_M _ rfl _ rfl ts rfl HI.out.rg ?_ ?_)
  ·intro hp
   have HP:=hid hp
   clear hp
   have hins:=HH.out.ins.below HI.out.bl
   have HX:=hid (fun X (hb : Below wr.heap.size wr X)=>(show X.cell? ⟨p.ib,0,none⟩ = some (.map (some p.eb)) ∧ X.cell? ⟨p.ib,1,none⟩ = some (.map (some p.jb)) from ⟨(hins.below hb).cell 0,(hins.below hb).cell 1⟩))
   have HcE:=hid (fun W (hb : Below wr.heap.size wr W)=>mcloneI_any ((HH.out.me.below HI.out.bl).below hb))
   have HcJ:=hid (fun W (hb : Below wr.heap.size wr W)=>mcloneS_any ((HH.out.mj.below HI.out.bl).below hb))
   obtain ⟨x0,x1⟩:=HX.out wr (Below.refl _ _)
   have HBc:=hid (Below.drew (Below.refl wr.heap.size wr))
   clear hins
   go_upto_region 6 with fail
   go_region_held3 (fun X=>X.cell? ⟨p.ib,0,none⟩ = some (.map (some p.eb)) ∧ X.cell? ⟨p.ib,1,none⟩ = some (.map (some p.jb)))
    (first|exact ⟨x0,x1⟩|go_keep)
    (first
     | (go_at_call 64;refine (HcE.out _ HBc.out).mono ?_;rintro e X ⟨rfl,hm,hb⟩;have HmE:=hid (And.intro hm hb);have hbc:=belows HBc.out hb HBc.out.size;clear hm hb HBc x0 x1;have HBc:=hid hbc;clear hbc;obtain ⟨x0,x1⟩:=HX.out _ HBc.out)
     | (go_at_call 65;refine (HcJ.out _ HBc.out).mono ?_;rintro e X ⟨rfl,hm,hb⟩;have HmJ:=hid (And.intro hm hb);have hbc:=belows HBc.out hb HBc.out.size;clear hm hb HBc x0 x1;have HBc:=hid hbc;clear hbc;obtain ⟨x0,x1⟩:=HX.out _ HBc.out))
   all_goals
    go_wp2
    go_ret
    first
     | exact CopyP.mk HOk.out HH.out.mc.nd HI.out HP.out HBc.out (HmE.out.1.below HmJ.out.2) HmJ.out.1 (Nat.le_refl _) HmE.out.2.size (Nat.ne_of_lt HmE.out.1.lt)
     | exact CopyP.mk HOk.out HH.out.mc.nd HI.out HP.out HBc.out HmE.out.1 (HmJ.out.1.below HmE.out.2) HmJ.out.2.size (Nat.le_refl _) (Nat.ne_of_gt HmJ.out.1.lt)
  ·rintro ⟨⟨x1,x2⟩,mo,l,m⟩ todo' w1 hx hrg1 hlt hg1 hs1 hen
   have HLt:=hid hlt
   have hch : Chg (fun i=>i = w.heap.size + 1) wr w1:=Chg.of_grown hg1 (fun k e=>(Option.some.inj e).symm)
   have HW : Hid (CI w w1 p (done ++ [(((x1,x2) : Site),(mo,l,m))]) done todo' C'):=⟨hrg1,HI.out.mc.chg hch (by omega),HI.out.eq,fun x hx=>(by obtain ⟨b,e,h1,h2⟩:=HI.out.ml x hx;exact ⟨b,e,h1.chg hch (by omega),h2⟩),HI.out.ap,HI.out.bl.trans (hch.to_below (B:=w.heap.size) (fun k e=>by omega) HI.out.bl.size)⟩
   obtain ⟨k,hk0,hk1,-⟩:=HH.out.ml _ hx
   obtain rfl : mo = some k:=hk0
   dsimp only at hk1
   have HOx:=hid (HM.out.mc.ok _ (Pf.mem_keys.2 ⟨_,hx,rfl⟩))
   obtain ⟨wa,hwa⟩ : ∃ x,x = w1.alloc (.cells #[.int .i64 x1,.int .i64 x2] 29):=⟨_,rfl⟩
   obtain ⟨wb,hwb⟩ : ∃ x,x = wa.alloc (.cells #[.map (some k),.bool m] 85):=⟨_,rfl⟩
   have hba : Below w1.heap.size w1 wa:=by rw [hwa];exact (Below.refl _ _).alloc (Nat.le_refl _) _
   have hbb : Below wa.heap.size wa wb:=by rw [hwb];exact (Below.refl _ _).alloc (Nat.le_refl _) _
   have hza : wa.heap.size = w1.heap.size + 1:=by rw [hwa];simp
   have hb1:=belows hba hbb hba.size
   have hs:=HW.out.below hb1
   have HWb:=hid hs
   have bxa : BX wb w1.heap.size #[.int .i64 x1,.int .i64 x2] 29:=BX.below (w:=wa) (by rw [hwa];exact BX.new w1 _ _) hbb
   have bxb : BX wb wa.heap.size #[.map (some k),.bool m] 85:=by rw [hwb];exact BX.new wa _ _
   rw [hza] at bxb
   have y0 : wb.cell? ⟨w1.heap.size,0,none⟩ = some (.int .i64 x1):=bxa.cell 0
   have y1 : wb.cell? ⟨w1.heap.size,1,none⟩ = some (.int .i64 x2):=bxa.cell 1
   have y2 : wb.cell? ⟨w1.heap.size + 1,0,none⟩ = some (.map (some k)):=bxb.cell 0
   have y3 : wb.cell? ⟨w1.heap.size + 1,1,none⟩ = some (.bool m):=bxb.cell 1
   have HCl:=hid (fun W (hb : Below wb.heap.size wb W)=>mcloneI_any ((hk1.below hs.1.bl).below hb))
   have HBX:=hid (And.intro bxa bxb)
   have HPut : Hid (∀ W X nb,nb = W.heap.size → Below wb.heap.size wb W → MapL TI vI X nb l → Below W.heap.size W X → ∃ w5,(Instr.mapUpdate 75 (.map (some w.heap.size)) (.agg #[.int .i64 x1,.int .i64 x2]) (.agg #[.map (some nb),.bool m])).run Try.prog X = .ok () w5 ∧ (CI w w5 p (done ++ [(((x1,x2) : Site),(some k,l,m))]) (done ++ [(((x1,x2) : Site),(some k,l,m))]) todo' (C' ++ [(((x1,x2) : Site),(some nb,l,m))]) ∧ w5.rangeLeft p.cb (w.heap.size + 1) = w1.rangeLeft p.cb (w.heap.size + 1)) ∧ (w5.cell? ⟨w1.heap.size,0,none⟩ = some (.int .i64 x1) ∧ w5.cell? ⟨w1.heap.size,1,none⟩ = some (.int .i64 x2) ∧ w5.cell? ⟨w1.heap.size + 1,0,none⟩ = some (.map (some k)) ∧ w5.cell? ⟨w1.heap.size + 1,1,none⟩ = some (.bool m)) ∧ (X.cell? ⟨w1.heap.size,0,none⟩ = some (.int .i64 x1) ∧ X.cell? ⟨w1.heap.size,1,none⟩ = some (.int .i64 x2) ∧ X.cell? ⟨w1.heap.size + 1,0,none⟩ = some (.map (some k)) ∧ X.cell? ⟨w1.heap.size + 1,1,none⟩ = some (.bool m))):=fun W X nb hnb hb hm hbX=>by
    subst hnb
    have hbx:=belows hb hbX hb.size
    obtain ⟨h1,h2⟩:=HWb.out.1.below hbx
    have hzz:=HWb.out.1.rg.lts.2
    have hzw:=hb.size
    obtain ⟨w5,hput,h3,h4,h5⟩:=h1.put HCb.out HN.out HOx.out hm (by omega) (fun y hy e=>by
     obtain ⟨b,e',h6,-⟩:=(HWb.out.1.below hb).1.ml y hy
     rw [e] at e'
     have:=h6.lt
     have:=Option.some.inj e'
     omega)
    have a1:=(HBX.out.1.below hbx)
    have a2:=(HBX.out.2.below hbx)
    have c1:=a1.chg h5 (fun e=>by have:=HW.out.rg.lts.2;omega)
    have c2:=a2.chg h5 (fun e=>by have:=HW.out.rg.lts.2;omega)
    exact ⟨w5,hput,⟨h3,by rw [h4,h2,HWb.out.2]⟩,⟨c1.cell 0,c1.cell 1,c2.cell 0,c2.cell 1⟩,⟨a1.cell 0,a1.cell 1,a2.cell 0,a2.cell 1⟩⟩
   unfold TS vC at hen
   dsimp only at hen
   clear hs1 hlt hrg1 hg1 hch hx hk1 hba hbb hza hb1 hs bxa bxb
   have HWa:=hid hwa
   have HWbE:=hid hwb
   unfold TS vC
   dsimp only
   go_upto_region 5 with fail
   rw [← HWa.out,← HWbE.out]
   clear hwa hwb
   go_region_held3 (fun X=>X.cell? ⟨w1.heap.size,0,none⟩ = some (.int .i64 x1) ∧ X.cell? ⟨w1.heap.size,1,none⟩ = some (.int .i64 x2) ∧ X.cell? ⟨w1.heap.size + 1,0,none⟩ = some (.map (some k)) ∧ X.cell? ⟨w1.heap.size + 1,1,none⟩ = some (.bool m))
    (first|exact ⟨y0,y1,y2,y3⟩|exact ⟨z0,z1,z2,z3⟩|go_keep)
    (first|(go_at_call 64;refine (HCl.out _ (by repeat' first|with_reducible exact Below.refl _ _|with_reducible assumption|with_reducible refine belows_drewN ?_ _|with_reducible refine Below.drew ?_|with_reducible refine Below.alloc ?_ ?_ _|omega|(simp;done)|(simp;omega))).mono ?_;rintro e X ⟨rfl,hm,hb⟩;obtain ⟨w5,hput,hci,⟨z0,z1,z2,z3⟩,⟨v0,v1,v2,v3⟩⟩:=HPut.out _ _ wb.heap.size (by first|rfl|simp) (by repeat' first|with_reducible exact Below.refl _ _|with_reducible assumption|with_reducible refine belows_drewN ?_ _|with_reducible refine Below.drew ?_|with_reducible refine Below.alloc ?_ ?_ _|omega|(simp;done)|(simp;omega)) hm hb;have HCi:=hid hci;clear hm hb hci y0 y1 y2 y3;have y0:=v0;have y1:=v1;have y2:=v2;have y3:=v3;clear v0 v1 v2 v3))
   go_wp2
   go_roundw
   case rel=>exact ⟨_,todo',_,HCi.out.1⟩
   case measure=>rw [HCi.out.2];exact HLt.out
end
end Go.Proofs.Ytfphiomhlhpphaa
namespace Go.Proofs.Ytfphiomhlhpphaa
open Go Go.RowKit
open Pf (Site Sn ix addk alt keys)
set_option maxRecDepth 100000
set_option maxHeartbeats 2000000
theorem len_of_subset {κ : Type} [DecidableEq κ] : ∀ {a b : List κ},a.Nodup → (∀ x ∈ a,x ∈ b) → a.length ≤ b.length
 | [],_,_,_=>Nat.zero_le _
 | x :: a,b,ha,h=>by
  have hx : x ∈ b:=h x (by simp)
  have h2:=List.nodup_cons.1 ha
  have:=len_of_subset (a:=a) (b:=b.erase x) h2.2 (fun y hy=>(List.mem_erase_of_ne (show y ≠ x from fun e=>h2.1 (by rw [← e];exact hy))).2 (h y (by simp [hy])))
  rw [List.length_erase_of_mem hx] at this
  have:=List.length_pos_of_mem hx
  simp only [List.length_cons]
  omega
theorem keys_size {κ β : Type} (L : List (κ × β)) : (keys L).length = L.length:=List.length_map _
theorem more00 : Pf.more 0 0 = 0:=by decide
theorem keys_ge {κ : Type} [DecidableEq κ] {A B : List (κ × Int)} (hA : (keys A).Nodup) (cA : ∀ x ∈ A,1 ≤ x.2) (he : ∀ k,Pf.look 0 A k = Pf.more (Pf.look 0 B k) (Pf.look 0 B k)) : A.length ≤ B.length:=by
 rw [← keys_size A,← keys_size B]
 refine len_of_subset hA fun k hk=>?_
 by_cases hb : k ∈ keys B
 ·exact hb
 ·have h3:=cA _ (Pf.mem_look_iff (d:=(0 : Int)) hA hk)
  rw [he,Pf.look_not hb,more00] at h3
  exact absurd h3 (show ¬ (1 : Int) ≤ 0 by decide)
theorem OkP.tight {p p' : IV} {n m : Nat} (ok : OkP p n) (ok' : OkP p' m) (hE : (keys p'.E).Nodup) (hJ : (keys p'.J).Nodup) (hC : (keys p'.C).Nodup) (hst : p'.st = p.st.add p.st) : OkP p' n:=by
 have hen : ∀ k,Pf.look 0 p'.E k = Pf.more (Pf.look 0 p.E k) (Pf.look 0 p.E k):=fun k=>congrFun (congrArg Pf.St.en hst) k
 have hju : ∀ k,Pf.look 0 p'.J k = Pf.more (Pf.look 0 p.J k) (Pf.look 0 p.J k):=fun k=>congrFun (congrArg Pf.St.ju hst) k
 have hca : ∀ k,(Pf.look cl0 p'.C k).2 = Pf.merge (Pf.look cl0 p.C k).2 (Pf.look cl0 p.C k).2:=fun k=>congrFun (congrArg Pf.St.ca hst) k
 refine ⟨ok'.be,ok'.bj,ok'.bc,Nat.le_trans (keys_ge hE (fun x hx=>(ok'.be x hx).1) hen) ok.le,Nat.le_trans (keys_ge hJ (fun x hx=>(ok'.bj x hx).1) hju) ok.lj,Nat.le_trans ?_ ok.lc⟩
 rw [← keys_size p'.C,← keys_size p.C]
 refine len_of_subset hC fun k hk=>?_
 by_cases hb : k ∈ keys p.C
 ·exact hb
 ·have h3:=(ok'.bc _ (Pf.mem_look_iff (d:=cl0) hC hk)).2.1
  have h4:=hca k
  rw [Pf.look_not hb] at h4
  rw [show Pf.merge cl0.2 cl0.2 = ([],false) from merge_none ([],false)] at h4
  exact absurd (congrArg (·.1) h4) h3
section
variable {w : World} {base pb n : Nat} {p : IV}
theorem clone_any (h : PP w base pb p) (ok : OkP p n) (hn : n < 9000000000000) : Calls Try.prog 26 #[.pointer (some ⟨pb,0,none⟩)] w fun e w' =>
  ∃ pb' p',e = .returned (.pointer (some ⟨pb',0,none⟩)) ∧ PP w' w.heap.size pb' p' ∧ OkP p' n ∧ p'.st = p.st ∧ Below w.heap.size w w':=by
 have HM:=hid (made_yes h)
 have HC:=hid (iclone_any h.has ok hn)
 have x0 : w.cell? ⟨pb,0,none⟩ = some (.pointer (some ⟨p.ib,0,none⟩)):=h.box.cell 0
 unfold CopyP at HC
 clear h ok hn
 go_enter Try.func26,Try.ntmps26
 go_wp2_with (first|(go_at_call 40;refine HM.out.mono ?_;rintro e X ⟨rfl,hXe⟩;replace hXe:=hXe.symm;subst hXe)|(go_at_call 47;refine HC.out.mono ?_;rintro e w1 ⟨p',rfl,h1,h2,h3,h4⟩;have HR:=hid (And.intro h1 (And.intro h2 (And.intro h3 h4)));clear h1 h2 h3 h4))
 go_ret
 obtain ⟨h1,h2,h3,h4⟩:=HR.out
 have ha : Below w1.heap.size w1 (w1.alloc (.cells #[.pointer (some ⟨p'.ib,0,none⟩)] 53)):=(Below.refl _ _).alloc (Nat.le_refl _) _
 exact ⟨_,p',rfl,⟨BX.new w1 _ _,h1.below ha,h4.size⟩,h2,h3,belows h4 ha h4.size⟩
theorem addself_any (h : PP w base pb p) (hw : base ≤ w.heap.size) (ok : OkP p n) (hn : n + n < 9000000000000) :
  Calls Try.prog 20 #[.pointer (some ⟨pb,0,none⟩),.pointer (some ⟨pb,0,none⟩)] w fun e w'=>e = .returned (.int .i64 0) ∧ Step w w' base pb p n (p.st.add p.st):=by
 have HM:=hid (made_yes h)
 have HC:=hid (iclone_any h.has ok (by omega))
 have HJ:=hid (fun W p' (hb : Below w.heap.size w W) (h1 : IP W w.heap.size p') (h2 : OkP p' n)=>join_any (h.has.below hb) (Nat.le_trans hw hb.size) h1 ok h2 (fun i e e2=>by have:=h.has.lt i e;have:=h1.low i e2;omega) hn)
 have HX:=hid (fun W (hb : Below w.heap.size w W)=>(h.box.below hb).cell 0)
 have x0 : w.cell? ⟨pb,0,none⟩ = some (.pointer (some ⟨p.ib,0,none⟩)):=h.box.cell 0
 obtain ⟨i0,hi,hz0,hz1,hz2⟩:=info_parts infoInside
 have heq:=run_eql_ptr_same (P:=Try.prog) w (tp:=51) ⟨p.ib,0,none⟩ Try.underlying51 hi
 have HH:=hid h
 have HOk:=hid ok
 unfold JoinP at HJ
 unfold CopyP at HC
 clear hi hz0 hz1 hz2 h ok hw hn
 go_enter Try.func20,Try.ntmps20
 go_wp2_with (first
  | (go_at_call 40;refine HM.out.mono ?_;rintro e X ⟨rfl,hXe⟩;replace hXe:=hXe.symm;subst hXe)
  | (go_at_call 47;refine HC.out.mono ?_;rintro e w1 ⟨q,rfl,h1,h2,h3,h4⟩;have HR:=hid (And.intro h1 (And.intro h2 (And.intro h3 h4)));clear x0;have x0 : w1.cell? ⟨pb,0,none⟩ = some (.pointer (some ⟨p.ib,0,none⟩)):=HX.out _ h4;clear h1 h2 h3 h4)
  | (go_at_call 48;refine (HJ.out _ _ HR.out.2.2.2 HR.out.1 HR.out.2.1).mono ?_;rintro e w2 ⟨rfl,p',hib,hip,hok,hst,hc,hf⟩;have HQ:=hid (And.intro hib (And.intro hip (And.intro hok (And.intro hst (And.intro hc hf)))));clear hib hip hok hst hc hf))
 go_ret
 obtain ⟨hib,hip,hok,hst,hc,hf⟩:=HQ.out
 obtain ⟨h1,h2,h3,h4⟩:=HR.out
 rw [h3] at hst
 have hcw : Chg p.foot w w2:=(Chg.of_below h4).trans hc (fun i e=>.inl e)
 exact ⟨rfl,p',⟨by rw [hib];exact HH.out.box.chg hcw HH.out.off,hip,HH.out.low⟩,HOk.out.tight hok hip.me.nd hip.mj.nd hip.mc.nd hst,hst,hcw,fun i hi=>(hf i hi).imp id (fun e=>Nat.le_trans h4.size e)⟩
end
end Go.Proofs.Ytfphiomhlhpphaa
namespace Go.Proofs.Ytfphiomhlhpphaa
open Go Go.RowKit
open Pf (Site Sn look ix addk alt keys)
set_option maxRecDepth 100000
set_option maxHeartbeats 2000000
theorem more_any {n k : Int} (hn : Pf.Bd n) (hk : Pf.Bd k) (w : World) : Calls Try.prog 53 #[.int .i64 n,.int .i64 k] w fun e w'=>e = .returned (.int .i64 (Pf.more n k)) ∧ w' = w:=by
 obtain ⟨h1,h2⟩:=hn
 obtain ⟨h3,h4⟩:=hk
 unfold Pf.M at h2 h4
 have e1 : IntKind.i64.wrap (1099511627776 - n) = 1099511627776 - n:=IntWalk.i64_in _ (by omega)
 have e2 : IntKind.i64.wrap (n + k) = n + k:=IntWalk.i64_in _ (by omega)
 by_cases h : 1099511627776 - n < k
 ·have HR : Hid (Pf.more n k = 1099511627776):=if_pos h
  go_enter Try.func53,Try.ntmps53
  go_wp2
  go_ret
  exact ⟨by rw [HR.out];rfl,rfl⟩
 ·have HR : Hid (Pf.more n k = n + k):=if_neg h
  go_enter Try.func53,Try.ntmps53
  go_wp2
  go_ret
  exact ⟨by rw [HR.out];rfl,rfl⟩
theorem infoEn : (Try.prog.info? 95).map (fun i=>(i.zero,i.size,i.bytes)) = some (some (.agg #[.int .i64 0,.int .i64 0]),2,16):=by kernel_rfl
theorem infoJu : (Try.prog.info? 97).map (fun i=>(i.zero,i.size,i.bytes)) = some (some (.agg #[.int .i64 0,.int .i64 0,.int .i64 0]),3,24):=by kernel_rfl
theorem infoCa : (Try.prog.info? 99).map (fun i=>(i.zero,i.size,i.bytes)) = some (some (.agg #[.int .i64 0,.int .i64 0,.slice none 0 0,.bool false]),4,48):=by kernel_rfl
theorem infoSe : (Try.prog.info? 44).map (fun i=>(i.zero,i.size,i.bytes)) = some (some (.agg #[.int .i64 0,.int .i64 0]),2,16):=by kernel_rfl
def Own1 (pb : Nat) (v : Value) (i : Nat) : Prop:=i = pb ∨ v.ownBlock = some i
def Fresh (w : World) (v v' : Value) : Prop:=v'.ownBlock = v.ownBlock ∨ ∃ g,v'.ownBlock = some g ∧ w.heap.size ≤ g
section
variable {w w3 : World} {base : Nat} {r : PR} {v' : Value}
theorem RefR.setE {E' : List (Int × Int)} (h : RefR w base r) (hc : Chg (fun i=>r.ev.ownBlock = some i) w w3) (ho : w3.ownsRow base 95 2 v' E'.length (E'.flatMap evL)) :
  w3.cell? ⟨r.pb,0,none⟩ = some r.ev ∧ w3.frozen? ⟨r.pb,0,none⟩ = false ∧ RefR (w3.setCell ⟨r.pb,0,none⟩ v') base { r with ev:=v',E:=E' } ∧ Chg (Own1 r.pb r.ev) w (w3.setCell ⟨r.pb,0,none⟩ v'):=by
 have hb:=h.box.chg hc (own_unlike_box h.er h.box (by decide))
 have hS : Chg (Own1 r.pb r.ev) w (w3.setCell ⟨r.pb,0,none⟩ v'):=(hc.mono (fun i _ e=>.inr e)).set (.inl (.inl rfl)) _
 have h1 : Chg (fun i=>i = r.pb) w3 (w3.setCell ⟨r.pb,0,none⟩ v'):=(Chg.refl (fun i=>i = r.pb) w3).set (.inl rfl) _
 refine ⟨hb.cell 0,hb.frozen 0,⟨box_set hb 0 v',owns_chg ho h1 (fun k e e2=>own_unlike_box ho hb (by decide) (e2 ▸ e)),owns_chg h.jr hS (fun k e e2=>?_),owns_chg h.cr hS (fun k e e2=>?_),fun x hx=>owns_chg (h.lr x hx) hS (fun k e e2=>?_),h.low⟩,hS⟩
 ·rcases e2 with rfl|e2
  ·exact own_unlike_box h.jr h.box (by decide) e
  ·exact own_unlike h.jr h.er (by decide) k e e2
 ·rcases e2 with rfl|e2
  ·exact own_unlike_box h.cr h.box (by decide) e
  ·exact own_unlike h.cr h.er (by decide) k e e2
 ·rcases e2 with rfl|e2
  ·exact own_unlike_box (h.lr x hx) h.box (by decide) e
  ·exact own_unlike (h.lr x hx) h.er (by decide) k e e2
theorem RefR.setJ {J' : List (Site × Int)} (h : RefR w base r) (hc : Chg (fun i=>r.jv.ownBlock = some i) w w3) (ho : w3.ownsRow base 97 3 v' J'.length (J'.flatMap jvL)) :
  w3.cell? ⟨r.pb,1,none⟩ = some r.jv ∧ w3.frozen? ⟨r.pb,1,none⟩ = false ∧ RefR (w3.setCell ⟨r.pb,1,none⟩ v') base { r with jv:=v',J:=J' } ∧ Chg (Own1 r.pb r.jv) w (w3.setCell ⟨r.pb,1,none⟩ v'):=by
 have hb:=h.box.chg hc (own_unlike_box h.jr h.box (by decide))
 have hS : Chg (Own1 r.pb r.jv) w (w3.setCell ⟨r.pb,1,none⟩ v'):=(hc.mono (fun i _ e=>.inr e)).set (.inl (.inl rfl)) _
 have h1 : Chg (fun i=>i = r.pb) w3 (w3.setCell ⟨r.pb,1,none⟩ v'):=(Chg.refl (fun i=>i = r.pb) w3).set (.inl rfl) _
 refine ⟨hb.cell 1,hb.frozen 1,⟨box_set hb 1 v',owns_chg h.er hS (fun k e e2=>?_),owns_chg ho h1 (fun k e e2=>own_unlike_box ho hb (by decide) (e2 ▸ e)),owns_chg h.cr hS (fun k e e2=>?_),fun x hx=>owns_chg (h.lr x hx) hS (fun k e e2=>?_),h.low⟩,hS⟩
 ·rcases e2 with rfl|e2
  ·exact own_unlike_box h.er h.box (by decide) e
  ·exact own_unlike h.er h.jr (by decide) k e e2
 ·rcases e2 with rfl|e2
  ·exact own_unlike_box h.cr h.box (by decide) e
  ·exact own_unlike h.cr h.jr (by decide) k e e2
 ·rcases e2 with rfl|e2
  ·exact own_unlike_box (h.lr x hx) h.box (by decide) e
  ·exact own_unlike (h.lr x hx) h.jr (by decide) k e e2
theorem RefR.setC {C' : List (Site × Ce)} (h : RefR w base r) (hc : Chg (fun i=>r.cv.ownBlock = some i) w w3) (ho : w3.ownsRow base 99 4 v' C'.length (C'.flatMap cvL)) (hl : ∀ x ∈ C',w3.ownsRow base 44 2 x.2.1 x.2.2.1.length (x.2.2.1.flatMap evL)) :
  w3.cell? ⟨r.pb,2,none⟩ = some r.cv ∧ w3.frozen? ⟨r.pb,2,none⟩ = false ∧ RefR (w3.setCell ⟨r.pb,2,none⟩ v') base { r with cv:=v',C:=C' } ∧ Chg (Own1 r.pb r.cv) w (w3.setCell ⟨r.pb,2,none⟩ v'):=by
 have hb:=h.box.chg hc (own_unlike_box h.cr h.box (by decide))
 have hS : Chg (Own1 r.pb r.cv) w (w3.setCell ⟨r.pb,2,none⟩ v'):=(hc.mono (fun i _ e=>.inr e)).set (.inl (.inl rfl)) _
 have h1 : Chg (fun i=>i = r.pb) w3 (w3.setCell ⟨r.pb,2,none⟩ v'):=(Chg.refl (fun i=>i = r.pb) w3).set (.inl rfl) _
 refine ⟨hb.cell 2,hb.frozen 2,⟨box_set hb 2 v',owns_chg h.er hS (fun k e e2=>?_),owns_chg h.jr hS (fun k e e2=>?_),owns_chg ho h1 (fun k e e2=>own_unlike_box ho hb (by decide) (e2 ▸ e)),fun x hx=>owns_chg (hl x hx) h1 (fun k e e2=>own_unlike_box (hl x hx) hb (by decide) (e2 ▸ e)),h.low⟩,hS⟩
 ·rcases e2 with rfl|e2
  ·exact own_unlike_box h.er h.box (by decide) e
  ·exact own_unlike h.er h.cr (by decide) k e e2
 ·rcases e2 with rfl|e2
  ·exact own_unlike_box h.jr h.box (by decide) e
  ·exact own_unlike h.jr h.cr (by decide) k e e2
end
def EnPost (w : World) (base : Nat) (r : PR) (f : Int) (e : Ending) (w' : World) : Prop :=
 ∃ ev',e = .returned (.int .i64 ((ix r.E f : Nat) : Int)) ∧ RefR w' base { r with ev:=ev',E:=addk 0 r.E f } ∧ Chg (Own1 r.pb r.ev) w w' ∧ Fresh w r.ev ev'
theorem entry_any {w : World} {base : Nat} {r : PR} (h : RefR w base r) (hn : r.E.length ≤ 2932031007340) (f : Int) : Calls Try.prog 52 #[.pointer (some ⟨r.pb,0,none⟩),.int .i64 f] w (EnPost w base r f):=by
 obtain ⟨i0,hi,hz0,hz1,hz2⟩:=info_parts infoEn
 have hbase : base ≤ w.heap.size:=Nat.le_trans h.low (Nat.le_of_lt h.box.sz)
 have HR:=hid h
 obtain ⟨ea,ec,hev⟩:=own_form h.er
 have HIx:=hid (fun k x (a : k ≤ ix r.E f) (b : r.E[k]? = some x) (c : x.1 = f)=>Pf.ix_at a b c)
 have HSt:=hid (fun k x (a : k ≤ ix r.E f) (b : r.E[k]? = some x) (c : ¬ x.1 = f)=>Pf.ix_step a b c)
 have HLe:=hid (Pf.ix_le r.E f)
 obtain ⟨n,hnn⟩ : ∃ n,r.E.length = n:=⟨_,rfl⟩
 have HNN:=hid hnn
 rw [hnn] at hev hn
 have HEv:=hid hev
 obtain ⟨c0,-,-⟩:=h.cells
 rw [hev] at c0
 have hpb:=h.box.sz
 have hpf:=h.box.frozen 0
 have HOw:=hid (fun X (b : Below w.heap.size w X)=>Kit.owns_below h.er b (Nat.le_refl _))
 rw [hnn,hev] at HOw
 have HBs:=hid hbase
 clear hev hnn h
 go_enter Try.func52,Try.ntmps52
 go_wp2
 go_loop [5] (fun v=>∃ k : Nat,v = .int .i64 (k : Int) ∧ k ≤ n ∧ Hid (k ≤ ix r.E f)) (fun v=>n - (intOf v).toNat)
 case atStart=>exact ⟨0,rfl,Nat.zero_le _,Nat.zero_le _⟩
 case round =>
  obtain ⟨k,rfl,hk,HK⟩:=hrel
  by_cases hlt : k < n
  ·obtain ⟨x,hx⟩ : ∃ x,r.E[k]? = some x:=⟨_,List.getElem?_eq_getElem (by rw [HNN.out];exact hlt)⟩
   obtain ⟨g,cap,hv,-,hg,hc⟩:=row_at evL_len HR.out.er hx
   have hv2:=HEv.out
   rw [hv,HNN.out] at hv2
   obtain ⟨hea,-,rfl⟩:=Value.slice.inj hv2
   subst hea
   have d0 : w.cell? ⟨g,k * 2,none⟩ = some (.int .i64 x.1):=(hc 0 (by omega)).1
   have hki : (k : Int) < (n : Int):=by omega
   have HX:=hid hx
   clear hc hv hv2 hx
   by_cases he : x.1 = f
   ·have hd : (x.1 == f) = true:=by simpa using he
    have HI:=hid (HIx.out k x HK.out HX.out he)
    clear he
    go_wp2
    go_ret
    exact ⟨_,by rw [HI.out];rfl,by rw [Pf.addk_here (by rw [HI.out,HNN.out];exact hlt)];exact HR.out,Chg.refl _ _,.inl rfl⟩
   ·have hd : (x.1 == f) = false:=by simpa using he
    have HS : Hid (k + 1 ≤ ix r.E f):=HSt.out k x HK.out HX.out he
    clear he
    go_wp2
    exact ⟨⟨k + 1,by go_num,by omega,HS⟩,by simp [intOf];omega⟩
  ·obtain rfl : k = n:=by omega
   have HA : Hid (addk 0 r.E f = r.E ++ [(f,0)]):=Pf.addk_new (by rw [HNN.out];exact HK.out)
   have HI : Hid (ix r.E f = k):=Nat.le_antisymm (by have:=HLe.out;rwa [HNN.out] at this) HK.out
   go_wp2_with (at_builtin;go_loud (refine wpList_append_own_at _ rfl (.tmp 30) (.tmp 33) 64 rfl base 95 i0 _ 2 16 Try.underlying64 hi hz0 hz1 hz2 rfl (by decide) (.slice ea k ec) k _ rfl (HOw.out _ BLw) ⟨w.heap.size,0,none⟩ 1 1 [.int .i64 f,.int .i64 0] rfl rfl (news_of w [.int .i64 f,.int .i64 0] _) (by intro u hu;simp at hu;rcases hu with rfl|rfl <;> rfl) (by unfold maxLen;omega) (by omega) (by simp only [World.size_alloc];omega) ?_;intro v' w3 ho3 hg3 _ hk3;have hcg : Chg (fun i=>r.ev.ownBlock = some i) w w3:=(Chg.of_below ((Below.refl _ w).alloc (Nat.le_refl _) _)).grown hg3 (fun j e=>.inl (by rw [HEv.out];exact e));obtain ⟨q0,qf,hR,hC⟩:=HR.out.setE (E':=addk 0 r.E f) (v':=v') hcg (by rw [HA.out,List.length_append,List.flatMap_append,HNN.out];exact ho3);have HR3:=hid hR;have HC3:=hid hC;have HF3 : Hid (Fresh w r.ev v'):=(by (rcases hk3 with e|e);(·exact .inl (by rw [e,HEv.out]));(·exact .inr ⟨_,e,by simp⟩));obtain ⟨b2,p2,rfl⟩:=own_form ho3;have z0:=hR.box.cell 0;dsimp only at z0;have hwz:=hcg.size;rw [HEv.out] at q0;clear ho3 hg3 hk3 hcg hR hC))
   go_ret
   exact ⟨_,by rw [HI.out];simp [go_sem],HR3.out,HC3.out,HF3.out⟩
end Go.Proofs.Ytfphiomhlhpphaa
