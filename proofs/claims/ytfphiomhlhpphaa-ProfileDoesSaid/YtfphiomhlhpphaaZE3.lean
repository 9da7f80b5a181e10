/- Own texts for the claim, part 3. -/
import Derived.Test.YtfphiomhlhpphaaZE2
namespace Go.Proofs.Ytfphiomhlhpphaa
open Go Go.RowKit
open Pf (Site Sn ix addk alt keys)
set_option maxRecDepth 100000
set_option maxHeartbeats 2000000
theorem infoSeen : (Try.prog.info? 44).map (fun i=>(i.zero,i.size,i.bytes)) = some (some (.agg #[.int .i64 0,.int .i64 0]),2,16):=by kernel_rfl
theorem all_at1 {l : List Sn} (h : ∀ y ∈ l,1 ≤ y.2) : l.filter (atL 1) = l:=List.filter_eq_self.2 fun y hy=>decide_eq_true (h y hy)
def ClPost (w : World) (S : List Sn) (e : Ending) (w' : World) : Prop:=∃ v,e = .returned v ∧ w'.ownsRow w.heap.size 44 2 v S.length (S.flatMap evL) ∧ Below w.heap.size w w'
theorem RwR.at {w : World} {base : Nat} {v : Value} {S : List Sn} (h : RwR w base v S) {k : Nat} {x : Sn} (hx : S[k]? = some x) : ∃ g cap,v = .slice (some ⟨g,0,none⟩) S.length cap ∧ base ≤ g ∧ g < w.heap.size ∧ w.cell? ⟨g,k * 2,none⟩ = some (.int .i64 x.1) ∧ w.cell? ⟨g,k * 2 + 1,none⟩ = some (.int .i64 x.2):=by
 obtain ⟨g,cap,e,h1,h2,h3⟩:=row_at (f:=evL) evL_len h hx
 exact ⟨g,cap,e,h1,h2,(h3 0 (by omega)).1,(h3 1 (by omega)).1⟩
section
variable {w : World} {v : Value} {E : List Sn} {J : List (Site × Int)} {C : List (Site × Cl)} {me mj mc : Option Nat}
theorem classes_any (h : Sees w v E J C me mj mc) {s : Site} (hs : TS.ok s) (h1 : ∀ y ∈ (Pf.look cl0 C s).2.1,1 ≤ y.2) (hl : (Pf.look cl0 C s).2.1.length ≤ 4) :
  Calls Try.prog 17 #[v,sV s] w (ClPost w (Pf.srt (Pf.look cl0 C s).2.1)):=by
 obtain ⟨i0,hi,hz0,hz1,hz2⟩:=info_parts infoSeen
 obtain ⟨w1,hw1⟩ : ∃ w1,w1 = w.alloc (.cells #[.int .i64 s.1,.int .i64 s.2] 29):=⟨_,rfl⟩
 have hb1 : Below w.heap.size w w1:=by rw [hw1];exact (Below.refl _ _).alloc (Nat.le_refl _) _
 have bx : BX w1 w.heap.size #[.int .i64 s.1,.int .i64 s.2] 29:=by rw [hw1];exact BX.new w _ _
 have hq:=h.below hb1
 have HS:=hid (fun W (hb : Below w1.heap.size w1 W)=>hq.seen W hb)
 have HL:=hid (fun W (hb : Below w1.heap.size w1 W)=>(hq.hc.below hb).look ts uC cl0 (zC W) hs)
 have HX:=hid (fun W (hb : Below w1.heap.size w1 W)=>(show W.cell? ⟨w.heap.size,0,none⟩ = some (.int .i64 s.1) ∧ W.cell? ⟨w.heap.size,1,none⟩ = some (.int .i64 s.2) from ⟨(bx.below hb).cell 0,(bx.below hb).cell 1⟩))
 have hcl:=hq.cl s
 obtain ⟨⟨mo,l,m⟩,hc⟩ : ∃ c,Pf.look cl0 C s = c:=⟨_,rfl⟩
 rw [hc] at HL h1 hl hcl ⊢
 dsimp only at h1 hl
 have HR:=hid (fun W (hb : Below w1.heap.size w1 W)=>ranked_any (show MO TI vI W mo l from hcl.below hb) (by omega) 1)
 unfold RkPost at HR
 rw [all_at1 h1] at HR
 unfold TS vC at HL
 unfold sV
 dsimp only at HL
 have f2:=fld2 me mj mc
 have fc:=fldc mo m
 have HLn : Hid ((Pf.srt l).length ≤ 4):=by show _ ≤ _;rw [Pf.srt_len];exact hl
 obtain ⟨S,hS⟩ : ∃ S,Pf.srt l = S:=⟨_,rfl⟩
 show Calls _ _ _ _ (ClPost w (Pf.srt l))
 rw [hS] at HR HLn ⊢
 obtain ⟨x0,x1⟩:=HX.out w1 (Below.refl _ _)
 have HBc : Hid (Below w1.heap.size w1 w1):=Below.refl _ _
 have HB1:=hid hb1
 have HW1:=hid hw1
 have HWs : Hid (w.heap.size < w1.heap.size):=bx.sz
 clear h hs h1 hl hb1 bx hq hcl hc hS hw1
 go_enter Try.func17,Try.ntmps17
 go_upto_region 1 with fail
 rw [← HW1.out]
 go_upto_region 2 with fail
 go_region_held3 (fun X=>X.cell? ⟨w.heap.size,0,none⟩ = some (.int .i64 s.1) ∧ X.cell? ⟨w.heap.size,1,none⟩ = some (.int .i64 s.2))
  (first|exact ⟨x0,x1⟩|go_keep)
  (first
   | (go_at_call 44;(with_reducible refine (HS.out _ (by first|exact HBc.out|exact Below.drew HBc.out)).mono ?_);rintro e X ⟨rfl,hb⟩;have hbc:=belows (show Below w1.heap.size w1 _ from (by first|exact HBc.out|exact Below.drew HBc.out)) hb (by first|exact HBc.out.size|exact (Below.drew HBc.out).size);clear HBc hb x0 x1;have HBc:=hid hbc;clear hbc;obtain ⟨x0,x1⟩:=HX.out _ HBc.out;have lk:=HL.out _ HBc.out)
   | (go_at_call 45;(with_reducible refine (HR.out _ (by first|exact HBc.out|exact Below.drew HBc.out)).mono ?_);rintro e X ⟨v1,rfl,ho,hb⟩;have hbl:=HBc.out.size;have HO:=hid (show RwR X w1.heap.size v1 S from Kit.owns_mono ho hbl);have hbc:=belows (show Below w1.heap.size w1 _ from (by first|exact HBc.out|exact Below.drew HBc.out)) hb (by first|exact HBc.out.size|exact (Below.drew HBc.out).size);clear HBc hb x0 x1 ho lk hbl;have HBc:=hid hbc;clear hbc;obtain ⟨x0,x1⟩:=HX.out _ HBc.out;obtain ⟨va,vc,hv⟩:=own_form HO.out;subst hv))
 have HI0 : Hid (X.ownsRow w1.heap.size 44 2 (.slice none 0 0) 0 (([] : List Sn).flatMap evL) ∧ RwR X w1.heap.size (.slice va S.length vc) S ∧ Below w1.heap.size w1 X):=⟨⟨rfl,.inl ⟨rfl,rfl⟩⟩,HO.out,HBc.out⟩
 clear HO HBc x0 x1
 go_wp2
 go_loopw [16,5] (fun i u wr=>∃ k : Nat,i = .int .i64 (k : Int) ∧ k ≤ S.length ∧ Hid (wr.ownsRow w1.heap.size 44 2 u k ((S.take k).flatMap evL) ∧ RwR wr w1.heap.size (.slice va S.length vc) S ∧ Below w1.heap.size w1 wr)) (fun i _ _=>S.length - (intOf i).toNat)
 case atStart=>exact ⟨0,rfl,Nat.zero_le _,HI0⟩
 case round =>
  clear HI0
  obtain ⟨k,rfl,hk,HI⟩:=hrel
  obtain ⟨ua,uc,hu⟩:=own_form HI.out.1
  subst hu
  by_cases hlt : k < S.length
  ·obtain ⟨x,hx⟩ : ∃ x,S[k]? = some x:=⟨_,List.getElem?_eq_getElem hlt⟩
   obtain ⟨g,cap,hv,hg1,hg2,c0,c1⟩:=HI.out.2.1.at hx
   obtain ⟨rfl,-,rfl⟩:=Value.slice.inj hv
   obtain ⟨x0,x1⟩:=x
   dsimp only at c0 c1
   have HT : Hid (S.take (k + 1) = S.take k ++ [(x0,x1)]):=by show _ = _;rw [List.take_add_one,hx];rfl
   have hb2 : Below wr.heap.size wr ((wr.alloc (.cells #[Value.int .i64 x0,Value.int .i64 x1] 87)).alloc (.cells #[Value.int .i64 x0,Value.int .i64 x1] 44)):=((Below.refl _ _).alloc (Nat.le_refl _) _).alloc (by simp) _
   have HB2:=hid hb2
   have HOw:=hid (Kit.owns_below HI.out.1 hb2 (Nat.le_refl _))
   have HRw:=hid (HI.out.2.1.below hb2)
   have HBw:=hid (belows HI.out.2.2 hb2 HI.out.2.2.size)
   have HNW : Hid (∀ j u,[Value.int .i64 x0,Value.int .i64 x1][j]? = some u → ((wr.alloc (.cells #[Value.int .i64 x0,Value.int .i64 x1] 87)).alloc (.cells #[Value.int .i64 x0,Value.int .i64 x1] 44)).cell? ((⟨wr.heap.size + 1,0,none⟩ : Addr).add j) = some u):=by
    have:=news_of (wr.alloc (.cells #[Value.int .i64 x0,Value.int .i64 x1] 87)) [Value.int .i64 x0,Value.int .i64 x1] 44
    rw [World.size_alloc] at this
    exact this
   have hl4:=HLn.out
   have hlt' : decide ((k : Int) < (S.length : Int)) = true:=decide_eq_true (by omega)
   clear hx hb2 hv
   go_wp2_with (at_builtin;refine wpList_append_own _ rfl (.tmp 20) (.tmp 26) 41 rfl w1.heap.size 44 i0 _ 2 16 Try.underlying41 hi hz0 hz1 hz2 rfl (by decide) (.slice ua k uc) _ _ rfl HOw.out ⟨wr.heap.size + 1,0,none⟩ 1 1 [.int .i64 x0,.int .i64 x1] rfl rfl HNW.out (by intro u hu;simp at hu;rcases hu with rfl|rfl <;> rfl) (by have:=HLn.out;unfold maxLen;omega) (by have:=HLn.out;omega) (by have:=HBw.out.size;simpa using this) ?_;intro v' w2 ho2 hg2 _;have HO2:=hid ho2;have HG2:=hid hg2;clear ho2 hg2)
   have HR2 : Hid (RwR w2 w1.heap.size (.slice (some ⟨g,0,none⟩) S.length vc) S):=owns_grown' HRw.out HG2.out (fun j e e2=>own_unlike HOw.out HRw.out (by decide) j e e2)
   have HB3 : Hid (Below w1.heap.size w1 w2):=HBw.out.grown HG2.out HBw.out.size (fun j e=>Kit.own_base HOw.out j e)
   go_roundw
   case rel=>exact ⟨k + 1,by go_num,by omega,by rw [HT.out,List.flatMap_append];exact HO2.out,HR2.out,HB3.out⟩
   case measure=>simp [intOf];omega
  ·obtain rfl : k = S.length:=by omega
   go_wp2
   go_ret
   refine ⟨_,rfl,?_,belows HB1.out HI.out.2.2 HB1.out.size⟩
   have:=HI.out.1
   rw [List.take_length] at this
   exact Kit.owns_mono this HB1.out.size
end
end Go.Proofs.Ytfphiomhlhpphaa
namespace Go.Proofs.Ytfphiomhlhpphaa
open Go Go.RowKit
open Pf (Site Sn ix addk alt keys)
set_option maxRecDepth 100000
set_option maxHeartbeats 2000000
def mainC (c : List Sn × Bool) : Int × Bool:=if c.2 = true then (0,false) else match Pf.srt c.1 with|[]=>(0,false)|y :: _=>(y.1,true)
section
variable {w : World} {v : Value} {E : List Sn} {J : List (Site × Int)} {C : List (Site × Cl)} {me mj mc : Option Nat}
theorem main_any (h : Sees w v E J C me mj mc) {s : Site} (hs : TS.ok s) (h1 : ∀ y ∈ (Pf.look cl0 C s).2.1,1 ≤ y.2) (hl : (Pf.look cl0 C s).2.1.length ≤ 4) :
  Calls Try.prog 23 #[v,sV s] w fun e w'=>e = .returned (.tuple #[.int .i64 (mainC (Pf.look cl0 C s).2).1,.bool (mainC (Pf.look cl0 C s).2).2]) ∧ Below w.heap.size w w':=by
 obtain ⟨w1,hw1⟩ : ∃ w1,w1 = w.alloc (.cells #[.int .i64 s.1,.int .i64 s.2] 29):=⟨_,rfl⟩
 have hb1 : Below w.heap.size w w1:=by rw [hw1];exact (Below.refl _ _).alloc (Nat.le_refl _) _
 have bx : BX w1 w.heap.size #[.int .i64 s.1,.int .i64 s.2] 29:=by rw [hw1];exact BX.new w _ _
 have hq:=h.below hb1
 have HS:=hid (fun W (hb : Below w1.heap.size w1 W)=>hq.seen W hb)
 have HL:=hid (fun W (hb : Below w1.heap.size w1 W)=>(hq.hc.below hb).look ts uC cl0 (zC W) hs)
 have HX:=hid (fun W (hb : Below w1.heap.size w1 W)=>(show W.cell? ⟨w.heap.size,0,none⟩ = some (.int .i64 s.1) ∧ W.cell? ⟨w.heap.size,1,none⟩ = some (.int .i64 s.2) from ⟨(bx.below hb).cell 0,(bx.below hb).cell 1⟩))
 have hcl:=hq.cl s
 obtain ⟨⟨mo,l,m⟩,hc⟩ : ∃ c,Pf.look cl0 C s = c:=⟨_,rfl⟩
 rw [hc] at HL h1 hl hcl ⊢
 dsimp only at h1 hl
 have HR:=hid (fun W (hb : Below w1.heap.size w1 W)=>ranked_any (show MO TI vI W mo l from hcl.below hb) (by omega) 1)
 have HN:=hid (fun W (hb : Below w1.heap.size w1 W)=>(hcl.below hb).len)
 unfold RkPost at HR
 rw [all_at1 h1] at HR
 unfold TS vC at HL
 unfold sV
 dsimp only at HL HN
 have f2:=fld2 me mj mc
 have HM : Hid (mainC (l,m) = if m = true then (0,false) else match Pf.srt l with|[]=>(0,false)|y :: _=>(y.1,true)):=rfl
 show Calls _ _ _ _ fun e w'=>e = .returned (.tuple #[.int .i64 (mainC (l,m)).1,.bool (mainC (l,m)).2]) ∧ Below w.heap.size w w'
 obtain ⟨mx,hmx⟩ : ∃ x,mainC (l,m) = x:=⟨_,rfl⟩
 rw [hmx] at HM ⊢
 have HLn:=hid (Pf.srt_len l)
 obtain ⟨S,hS⟩ : ∃ S,Pf.srt l = S:=⟨_,rfl⟩
 rw [hS] at HR HLn HM
 have HL4:=hid hl
 obtain ⟨n,hn⟩ : ∃ n,l.length = n:=⟨_,rfl⟩
 rw [hn] at HN HLn HL4
 obtain ⟨x0,x1⟩:=HX.out w1 (Below.refl _ _)
 have HBc : Hid (Below w1.heap.size w1 w1):=Below.refl _ _
 have HB1:=hid hb1
 have HW1:=hid hw1
 have HWs : Hid (w.heap.size < w1.heap.size):=bx.sz
 clear h hs h1 hl hb1 bx hq hcl hc hS hw1 hmx hn
 go_enter Try.func23,Try.ntmps23
 go_upto_region 1 with fail
 rw [← HW1.out]
 go_region_held3 (fun X=>X.cell? ⟨w.heap.size,0,none⟩ = some (.int .i64 s.1) ∧ X.cell? ⟨w.heap.size,1,none⟩ = some (.int .i64 s.2))
  (first|exact ⟨x0,x1⟩|exact HX.out _ (Below.setCell (Below.setCell HBc.out (Nat.le_refl _) _) (Nat.le_refl _) _)|go_keep)
  (first
   | (go_at_call 44;first
     | ((with_reducible refine (HS.out _ (by first|exact HBc.out|exact Below.drew HBc.out)).mono ?_);rintro e X ⟨rfl,hb⟩;have hbc:=belows (show Below w1.heap.size w1 _ from (by first|exact HBc.out|exact Below.drew HBc.out)) hb (by first|exact HBc.out.size|exact (Below.drew HBc.out).size);clear HBc hb x0 x1;have HBc:=hid hbc;clear hbc;obtain ⟨x0,x1⟩:=HX.out _ HBc.out;have lk:=HL.out _ HBc.out;have lk2:=HL.out (X.alloc (.cells #[.map none,.bool false] 85)) (HBc.out.alloc HBc.out.size _))
     | (have hbd : Below w1.heap.size w1 ((w1.alloc (.cells #[.map none,.bool false] 85)).drew):=Below.drew ((Below.refl w1.heap.size w1).alloc (Nat.le_refl _) _);(with_reducible refine (HS.out _ hbd).mono ?_);rintro e X ⟨rfl,hb⟩;have hbc:=belows hbd hb hbd.size;have HWb:=hid (((BX.new w1 #[.map none,.bool false] 85).below (Below.drew (Below.refl _ _))).below hb);clear HBc hb hbd x0 x1;have HBc:=hid hbc;clear hbc;obtain ⟨x0,x1⟩:=HX.out _ HBc.out;have lk:=HL.out _ HBc.out;have r0 : X.cell? ⟨w1.heap.size,0,none⟩ = some (.map none):=HWb.out.cell 0;have r1 : X.cell? ⟨w1.heap.size,1,none⟩ = some (.bool false):=HWb.out.cell 1;have g0 : X.frozen? ⟨w1.heap.size,0,none⟩ = false:=HWb.out.frozen 0;have g1 : X.frozen? ⟨w1.heap.size,1,none⟩ = false:=HWb.out.frozen 1;have gz:=HWb.out.sz)))
 all_goals
  go_upto_region 2 with fail
  refine region_named fun W2 hW2=>?_
  have HBw : Hid (Below w1.heap.size w1 W2):=by
   show Below _ _ _
   rw [hW2]
   first
    | exact Below.setCell (Below.setCell HBc.out (Nat.le_refl _) _) (Nat.le_refl _) _
    | exact HBc.out.alloc HBc.out.size _
  first
   | (have hbx : BX W2 X.heap.size #[.map mo,.bool m] 85:=(by rw [hW2];exact BX.new X _ _);have y0 : W2.cell? ⟨X.heap.size,0,none⟩ = some (.map mo):=hbx.cell 0;have y1 : W2.cell? ⟨X.heap.size,1,none⟩ = some (.bool m):=hbx.cell 1;clear hbx;(try (clear lk2)))
   | (have hbx : BX W2 w1.heap.size #[.map mo,.bool m] 85:=(by rw [hW2];exact box_set (box_set HWb.out 0 (.map mo)) 1 (.bool m));have y0 : W2.cell? ⟨w1.heap.size,0,none⟩ = some (.map mo):=hbx.cell 0;have y1 : W2.cell? ⟨w1.heap.size,1,none⟩ = some (.bool m):=hbx.cell 1;clear hbx r0 r1 g0 g1;(try (clear gz HWb)))
  have ln:=HN.out W2 HBw.out
  clear hW2 x0 x1 HBc
  try (clear lk)
  cases m
  ·cases S with
   | nil =>
    obtain rfl : n = 0:=by have:=HLn.out;simpa using this.symm
    have hx : mx = (0,false):=HM.out
    subst hx
    go_wp2
    go_ret2
    exact ⟨rfl,belows HB1.out HBw.out HB1.out.size⟩
   | cons y t =>
    have hx : mx = (y.1,true):=HM.out
    subst hx
    have hn0 : ((n : Int) == 0) = false:=by have:=HLn.out;simp only [List.length_cons] at this;simp;omega
    obtain ⟨k,q⟩:=y
    go_wp2_with (go_at_call 45;go_loud (refine (HR.out _ HBw.out).mono ?_;rintro e W3 ⟨v1,rfl,ho,hb⟩;obtain ⟨g,cap,hv,hg1,hg2,c0,c1⟩:=RwR.at ho (k:=0) (x:=(k,q)) rfl;subst hv;have hpos : (0 : Int) < (((k,q) :: t).length : Int):=(by simp only [List.length_cons];omega);rw [Nat.zero_mul] at c0 c1;have HB3:=hid (belows HBw.out hb HBw.out.size);clear ho hb hg1))
    go_ret2
    exact ⟨rfl,belows HB1.out HB3.out HB1.out.size⟩
  ·have hx : mx = (0,false):=HM.out
   subst hx
   go_wp2
   go_ret2
   exact ⟨rfl,belows HB1.out HBw.out HB1.out.size⟩
end
end Go.Proofs.Ytfphiomhlhpphaa
namespace Go.Proofs.Ytfphiomhlhpphaa
open Go Go.RowKit
open Pf (Site Sn ix addk alt keys)
set_option maxRecDepth 100000
set_option maxHeartbeats 2000000
def IV.setC (p : IV) (s : Site) (b : Nat) (c : List Sn × Bool) : IV:={ p with C:=alt cl0 p.C s (fun _=>(some b,c)) }
def CallP (w : World) (base pb : Nat) (p : IV) (s : Site) (k : Int) (e : Ending) (w' : World) : Prop :=
 e = .returned (.int .i64 (Pf.kind (Pf.cnt (p.st.ca s) k 1))) ∧ ∃ b,PP w' base pb (p.setC s b (Pf.cnt (p.st.ca s) k 1)) ∧ Chg (fun i=>i = p.cb ∨ (Pf.look cl0 p.C s).1 = some i) w w' ∧ ((Pf.look cl0 p.C s).1 = some b ∨ ((Pf.look cl0 p.C s).1 = none ∧ w.heap.size ≤ b))
theorem IP.clb {w : World} {base : Nat} {p : IV} (h : IP w base p) {s : Site} {b : Nat} (e : (Pf.look cl0 p.C s).1 = some b) : p.foot b:=by
 by_cases hk : s ∈ keys p.C
 ·exact .inr (.inr (.inr (.inr ⟨_,Pf.mem_look_iff (d:=cl0) h.mc.nd hk,e⟩)))
 ·rw [Pf.look_not hk] at e
  cases e
section
variable {w : World} {base pb : Nat} {p : IV}
theorem callp_yes (h : PP w base pb p) (hw : base ≤ w.heap.size) {s : Site} (hs : TS.ok s) {k : Int} (hk : I8 k) (hok : Pf.OkC (p.st.ca s)) (hl : p.C.length < maxLen) : Calls Try.prog 14 #[.pointer (some ⟨pb,0,none⟩),sV s,.int .i64 k] w (CallP w base pb p s k):=by
 obtain ⟨w1,hw1⟩ : ∃ w1,w1 = w.alloc (.cells #[.int .i64 s.1,.int .i64 s.2] 29):=⟨_,rfl⟩
 have hb1 : Below w.heap.size w w1:=by rw [hw1];exact (Below.refl _ _).alloc (Nat.le_refl _) _
 have bx : BX w1 w.heap.size #[.int .i64 s.1,.int .i64 s.2] 29:=by rw [hw1];exact BX.new w _ _
 have h1:=h.below hb1
 have HM:=hid (made_yes h1)
 have HA:=hid (fun W (hb : Below w1.heap.size w1 W)=>call_any (h1.has.below hb) (Nat.le_trans hw (Nat.le_trans hb1.size hb.size)) hs hk Pf.bd1 hok hl)
 have HK:=hid (fun W X (hb : Below w1.heap.size w1 W) (hc : Chg (fun i=>i = p.cb ∨ (Pf.look cl0 p.C s).1 = some i) W X)=>(show X.cell? ⟨pb,0,none⟩ = some (.pointer (some ⟨p.ib,0,none⟩)) ∧ X.cell? ⟨w.heap.size,0,none⟩ = some (.int .i64 s.1) ∧ X.cell? ⟨w.heap.size,1,none⟩ = some (.int .i64 s.2) from by
  have n1 : ¬ (pb = p.cb ∨ (Pf.look cl0 p.C s).1 = some pb):=fun e=>h1.off (e.elim (fun e=>.inr (.inr (.inr (.inl e)))) (fun e=>h1.has.clb e))
  have n2 : ¬ (w.heap.size = p.cb ∨ (Pf.look cl0 p.C s).1 = some w.heap.size):=fun e=>by
   have:=h.has.lt w.heap.size (e.elim (fun e=>.inr (.inr (.inr (.inl e)))) (fun e=>h.has.clb e))
   omega
  exact ⟨((h1.box.below hb).chg hc n1).cell 0,((bx.below hb).chg hc n2).cell 0,((bx.below hb).chg hc n2).cell 1⟩))
 have HKd:=hid (fun X p' (hX : PP X base pb p')=>kindp_any hX.sees hs)
 have x0 : w1.cell? ⟨pb,0,none⟩ = some (.pointer (some ⟨p.ib,0,none⟩)):=h1.box.cell 0
 have x2 : w1.cell? ⟨w.heap.size,0,none⟩ = some (.int .i64 s.1):=bx.cell 0
 have x3 : w1.cell? ⟨w.heap.size,1,none⟩ = some (.int .i64 s.2):=bx.cell 1
 have HW1:=hid hw1
 have HB1:=hid hb1
 have HH:=hid h
 have HH1:=hid h1
 unfold CallI at HA
 unfold sV at HA HKd ⊢
 clear h hs hk hok hl hw1 hb1 bx h1 hw
 go_enter Try.func14,Try.ntmps14
 go_upto_region 1 with fail
 rw [← HW1.out]
 go_upto_region 3 with (go_at_call 40;refine HM.out.mono ?_;rintro e w1 ⟨rfl,rfl⟩)
 go_region_held3 (fun X=>X.cell? ⟨pb,0,none⟩ = some (.pointer (some ⟨p.ib,0,none⟩)) ∧ X.cell? ⟨w.heap.size,0,none⟩ = some (.int .i64 s.1) ∧ X.cell? ⟨w.heap.size,1,none⟩ = some (.int .i64 s.2))
  (first|exact ⟨x0,x2,x3⟩|go_keep)
  (first|(go_at_call 43;refine (HA.out _ BLw).mono ?_;rintro e w4 ⟨rfl,b,hi4,hc4,hb4⟩;obtain ⟨y0,y2,y3⟩:=HK.out _ _ BLw hc4;have HQ:=hid (And.intro hi4 hb4);have HC4 : Hid (Chg (fun i=>i = p.cb ∨ (Pf.look cl0 p.C s).1 = some i) w1 w4):=(Chg.of_below (show Below w1.heap.size w1 _ from BLw)).trans hc4 (fun i e=>.inl e);clear hi4 hc4 hb4 x0 x2 x3;have x0:=y0;have x2:=y2;have x3:=y3;clear y0 y2 y3))
 have hcw : Chg (fun i=>i = p.cb ∨ (Pf.look cl0 p.C s).1 = some i) w w4:=(Chg.of_below HB1.out).trans HC4.out (fun i e=>.inl e)
 have hpp : PP w4 base pb (p.setC s b (Pf.cnt (p.st.ca s) k 1)):=⟨HH.out.box.chg hcw (fun e=>HH.out.off (e.elim (fun e=>.inr (.inr (.inr (.inl e)))) (fun e=>HH.out.has.clb e))),by have:=HQ.out.1;rw [Pf.alt_const] at this;exact this,HH.out.low⟩
 have HP:=hid hpp
 have HCw:=hid hcw
 have HKk:=hid (HKd.out w4 _ hpp)
 have HE : Hid (Pf.look cl0 (p.setC s b (Pf.cnt (p.st.ca s) k 1)).C s = (some b,Pf.cnt (p.st.ca s) k 1)):=by show Pf.look cl0 (alt cl0 p.C s _) s = _;rw [Pf.look_alt,if_pos rfl]
 rw [HE.out] at HKk
 clear hcw hpp
 go_wp2_with (go_at_call 18;refine HKk.out.mono ?_;rintro e w5 ⟨rfl,hb5⟩;have HB5:=hid hb5;clear hb5)
 go_ret
 refine ⟨rfl,b,HP.out.below HB5.out,HCw.out.below HB5.out,?_⟩
 have:=HQ.out.2
 have hz:=HB1.out.size
 exact this.imp_right fun ⟨e,l⟩=>⟨e,Nat.le_trans hz (Nat.le_trans (Below.size (show Below w1.heap.size w1 _ from BLw)) l)⟩
end
end Go.Proofs.Ytfphiomhlhpphaa
namespace Go.Proofs.Ytfphiomhlhpphaa
open Go Go.RowKit
open Pf (Site Sn ix addk alt keys)
set_option maxRecDepth 100000
set_option maxHeartbeats 2000000
theorem more_ge {y n : Int} (h : Pf.Bd y) (hn : 1 ≤ n ∧ n ≤ Pf.M) : 1 ≤ Pf.more y n ∧ Pf.more y n ≤ Pf.M:=by
 unfold Pf.Bd Pf.more Pf.M at *
 split <;> omega
theorem bd_of {n : Int} (h : 1 ≤ n ∧ n ≤ Pf.M) : Pf.Bd n:=⟨by omega,h.2⟩
section
variable {p : IV} {n : Nat}
theorem bd_look {κ : Type} [DecidableEq κ] {L : List (κ × Int)} (h : (keys L).Nodup) (hb : ∀ x ∈ L,1 ≤ x.2 ∧ x.2 ≤ Pf.M) (k : κ) : Pf.Bd (Pf.look 0 L k):=by
 by_cases hk : k ∈ keys L
 ·exact bd_of (hb _ (Pf.mem_look_iff (d:=(0 : Int)) h hk))
 ·rw [Pf.look_not hk]
  exact Pf.bd0
theorem alt_bd {κ : Type} [DecidableEq κ] {L : List (κ × Int)} (h : (keys L).Nodup) (hb : ∀ x ∈ L,1 ≤ x.2 ∧ x.2 ≤ Pf.M) (k : κ) {m : Int} (hm : 1 ≤ m ∧ m ≤ Pf.M) : ∀ x ∈ alt 0 L k (fun y=>Pf.more y m),1 ≤ x.2 ∧ x.2 ≤ Pf.M:=by
 intro x hx
 rw [Pf.alt_const] at hx
 rcases alt_is h hx with ⟨-,e⟩|⟨-,hx⟩
 ·rw [e]
  exact more_ge (bd_look h hb k) hm
 ·exact hb x hx
theorem cl_ok (h : OkP p n) (hd : (keys p.C).Nodup) (s : Site) : Pf.OkC (p.st.ca s) ∧ ∀ y ∈ (p.st.ca s).1,1 ≤ y.2:=by
 show Pf.OkC (Pf.look cl0 p.C s).2 ∧ ∀ y ∈ (Pf.look cl0 p.C s).2.1,1 ≤ y.2
 by_cases hk : s ∈ keys p.C
 ·have:=h.bc _ (Pf.mem_look_iff (d:=cl0) hd hk)
  exact ⟨this.1,this.2.2⟩
 ·rw [Pf.look_not hk]
  exact ⟨Pf.okC0,fun y hy=>by cases hy⟩
theorem cnt_fine {c : List Sn × Bool} {k m : Int} (h : Pf.OkC c) (h1 : ∀ y ∈ c.1,1 ≤ y.2) (hm : 1 ≤ m ∧ m ≤ Pf.M) : Pf.OkC (Pf.cnt c k m) ∧ (Pf.cnt c k m).1 ≠ [] ∧ ∀ y ∈ (Pf.cnt c k m).1,1 ≤ y.2:=by
 refine ⟨Pf.okC_cnt h (bd_of hm),?_⟩
 unfold Pf.cnt
 by_cases hk : k ∈ keys c.1 ∨ c.1.length < 4
 ·rw [if_pos hk]
  refine ⟨fun e=>?_,fun y hy=>?_⟩
  ·have:=(Pf.keys_alt_mem (d:=(0 : Int)) (l:=c.1) (k:=k) (j:=k) (g:=fun y=>Pf.more y m)).2 (.inr rfl)
   rw [show alt 0 c.1 k (fun y=>Pf.more y m) = [] from e] at this
   cases this
  ·have hb : ∀ x ∈ c.1,1 ≤ x.2 ∧ x.2 ≤ Pf.M:=fun x hx=>⟨h1 x hx,(h.bd x hx).2⟩
   exact (alt_bd h.nd hb k hm y hy).1
 ·rw [if_neg hk]
  refine ⟨fun e=>?_,h1⟩
  rw [show c.1 = [] from e] at hk
  exact hk (.inr (by decide))
theorem OkP.ok (h : OkP p n) (he : (keys p.E).Nodup) (hj : (keys p.J).Nodup) (hc : (keys p.C).Nodup) : Pf.Ok p.st:=⟨bd_look he h.be,bd_look hj h.bj,fun s=>(cl_ok h hc s).1⟩
theorem OkP.enter (h : OkP p n) (he : (keys p.E).Nodup) (f : Int) : OkP { p with E:=alt 0 p.E f (fun y=>Pf.more y 1) } (n + 1) :=
 ⟨alt_bd he h.be f ⟨by decide,by decide⟩,h.bj,h.bc,Nat.le_trans (Pf.alt_le p.E f _).2 (Nat.succ_le_succ h.le),Nat.le_succ_of_le h.lj,Nat.le_succ_of_le h.lc⟩
theorem OkP.back (h : OkP p n) (he : (keys p.J).Nodup) (s : Site) : OkP { p with J:=alt 0 p.J s (fun y=>Pf.more y 1) } (n + 1) :=
 ⟨h.be,alt_bd he h.bj s ⟨by decide,by decide⟩,h.bc,Nat.le_succ_of_le h.le,Nat.le_trans (Pf.alt_le p.J s _).2 (Nat.succ_le_succ h.lj),Nat.le_succ_of_le h.lc⟩
theorem OkP.setC (h : OkP p n) (hc : (keys p.C).Nodup) (s : Site) (b : Nat) {c : List Sn × Bool} (h1 : Pf.OkC c ∧ c.1 ≠ [] ∧ ∀ y ∈ c.1,1 ≤ y.2) : OkP (p.setC s b c) (n + 1) :=
 ⟨h.be,h.bj,fun x hx=>(alt_is hc hx).elim (fun e=>by rw [e.2];exact h1) (fun e=>h.bc x e.2),Nat.le_succ_of_le h.le,Nat.le_succ_of_le h.lj,Nat.le_trans (Pf.alt_le p.C s _).2 (Nat.succ_le_succ h.lc)⟩
theorem OkP.mono (h : OkP p n) {m : Nat} (hm : n ≤ m) : OkP p m:=⟨h.be,h.bj,h.bc,Nat.le_trans h.le hm,Nat.le_trans h.lj hm,Nat.le_trans h.lc hm⟩
theorem st_enter (p : IV) (f : Int) : IV.st { p with E:=alt 0 p.E f (fun y=>Pf.more y 1) } = p.st.enter f:=by
 show (⟨_,_,_⟩ : Pf.St) = ⟨_,_,_⟩
 congr 1
 funext g
 show Pf.look 0 (alt 0 p.E f _) g = _
 rw [Pf.look_alt]
 rfl
theorem st_back (p : IV) (s : Site) : IV.st { p with J:=alt 0 p.J s (fun y=>Pf.more y 1) } = p.st.back s:=by
 show (⟨_,_,_⟩ : Pf.St) = ⟨_,_,_⟩
 congr 1
 funext g
 show Pf.look 0 (alt 0 p.J s _) g = _
 rw [Pf.look_alt]
 rfl
theorem st_setC (p : IV) (s : Site) (b : Nat) (k m : Int) : (p.setC s b (Pf.cnt (p.st.ca s) k m)).st = p.st.call s k m:=by
 show (⟨_,_,_⟩ : Pf.St) = ⟨_,_,_⟩
 congr 1
 funext y
 show (Pf.look cl0 (alt cl0 p.C s _) y).2 = if y = s then _ else _
 rw [Pf.look_alt]
 by_cases e : y = s
 ·rw [if_pos e,if_pos e]
 ·rw [if_neg e,if_neg e]
  rfl
end
def Step (w w' : World) (base pb : Nat) (p : IV) (n : Nat) (t : Pf.St) : Prop:=∃ p',PP w' base pb p' ∧ OkP p' n ∧ p'.st = t ∧ Chg p.foot w w' ∧ ∀ i,p'.foot i → p.foot i ∨ w.heap.size ≤ i
section
variable {w : World} {base pb n : Nat} {p : IV}
theorem enterS (h : PP w base pb p) (ok : OkP p n) (hn : n < 9000000000000) {f : Int} (hf : I8 f) : Calls Try.prog 12 #[.pointer (some ⟨pb,0,none⟩),.int .i64 f] w fun e w' =>
  e = .returned (.int .i64 (Pf.more (p.st.en f) 1)) ∧ Step w w' base pb p (n + 1) (p.st.enter f):=by
 refine (enter_yes h hf (bd_look h.has.me.nd ok.be f) (by have:=ok.le;unfold maxLen;omega)).mono ?_
 rintro e w' ⟨rfl,h1,h2⟩
 exact ⟨rfl,_,h1,ok.enter h.has.me.nd f,st_enter p f,h2.mono (fun i _ e=>.inr (.inl e)),fun i hi=>.inl hi⟩
theorem backS (h : PP w base pb p) (ok : OkP p n) (hn : n < 9000000000000) {s : Site} (hs : TS.ok s) : Calls Try.prog 13 #[.pointer (some ⟨pb,0,none⟩),sV s] w fun e w' =>
  e = .returned (.int .i64 (Pf.more (p.st.ju s) 1)) ∧ Step w w' base pb p (n + 1) (p.st.back s):=by
 refine (back_yes h hs (bd_look h.has.mj.nd ok.bj s) (by have:=ok.lj;unfold maxLen;omega)).mono ?_
 rintro e w' ⟨rfl,h1,h2⟩
 exact ⟨rfl,_,h1,ok.back h.has.mj.nd s,st_back p s,h2.mono (fun i _ e=>.inr (.inr (.inl e))),fun i hi=>.inl hi⟩
theorem setC_foot {s : Site} {b : Nat} {c : List Sn × Bool} (hd : (keys p.C).Nodup) {i : Nat} (hi : (p.setC s b c).foot i) : p.foot i ∨ i = b:=by
 rcases hi with e|e|e|e|⟨x,hx,e⟩
 ·exact .inl (.inl e)
 ·exact .inl (.inr (.inl e))
 ·exact .inl (.inr (.inr (.inl e)))
 ·exact .inl (.inr (.inr (.inr (.inl e))))
 ·rcases alt_is hd hx with ⟨-,e2⟩|⟨-,hx⟩
  ·rw [e2] at e
   exact .inr (Option.some.inj e).symm
  ·exact .inl (.inr (.inr (.inr (.inr ⟨x,hx,e⟩))))
theorem callS (h : PP w base pb p) (hw : base ≤ w.heap.size) (ok : OkP p n) (hn : n < 9000000000000) {s : Site} (hs : TS.ok s) {k : Int} (hk : I8 k) : Calls Try.prog 14 #[.pointer (some ⟨pb,0,none⟩),sV s,.int .i64 k] w fun e w' =>
  e = .returned (.int .i64 (Pf.kind (Pf.cnt (p.st.ca s) k 1))) ∧ Step w w' base pb p (n + 1) (p.st.call s k 1):=by
 have hc:=cl_ok ok h.has.mc.nd s
 refine (callp_yes h hw hs hk hc.1 (by have:=ok.lc;unfold maxLen;omega)).mono ?_
 rintro e w' ⟨rfl,b,h1,h2,h3⟩
 refine ⟨rfl,_,h1,ok.setC h.has.mc.nd s b (cnt_fine hc.1 hc.2 ⟨by decide,by decide⟩),st_setC p s b k 1,h2.mono (fun i _ e=>e.elim (fun e=>.inr (.inr (.inr (.inl e)))) (fun e=>h.has.clb e)),fun i hi=>?_⟩
 rcases setC_foot h.has.mc.nd hi with e|rfl
 ·exact .inl e
 ·exact h3.imp (fun e=>h.has.clb e) (fun e=>e.2)
theorem enteredS (h : PP w base pb p) {f : Int} (hf : I8 f) : Calls Try.prog 15 #[.pointer (some ⟨pb,0,none⟩),.int .i64 f] w fun e w'=>e = .returned (.int .i64 (p.st.en f)) ∧ Below w.heap.size w w':=entered_any h.sees hf
theorem jumpedS (h : PP w base pb p) {s : Site} (hs : TS.ok s) : Calls Try.prog 16 #[.pointer (some ⟨pb,0,none⟩),sV s] w fun e w'=>e = .returned (.int .i64 (p.st.ju s)) ∧ Below w.heap.size w w':=jumped_any h.sees hs
theorem kindS (h : PP w base pb p) {s : Site} (hs : TS.ok s) : Calls Try.prog 18 #[.pointer (some ⟨pb,0,none⟩),sV s] w fun e w'=>e = .returned (.int .i64 (Pf.kind (p.st.ca s))) ∧ Below w.heap.size w w':=kindp_any h.sees hs
theorem classesS (h : PP w base pb p) (ok : OkP p n) {s : Site} (hs : TS.ok s) : Calls Try.prog 17 #[.pointer (some ⟨pb,0,none⟩),sV s] w (ClPost w (Pf.srt (p.st.ca s).1)) :=
 classes_any h.sees hs (cl_ok ok h.has.mc.nd s).2 (cl_ok ok h.has.mc.nd s).1.ln
theorem mainS (h : PP w base pb p) (ok : OkP p n) {s : Site} (hs : TS.ok s) : Calls Try.prog 23 #[.pointer (some ⟨pb,0,none⟩),sV s] w fun e w'=>e = .returned (.tuple #[.int .i64 (mainC (p.st.ca s)).1,.bool (mainC (p.st.ca s)).2]) ∧ Below w.heap.size w w' :=
 main_any h.sees hs (cl_ok ok h.has.mc.nd s).2 (cl_ok ok h.has.mc.nd s).1.ln
theorem newS (w : World) : Calls Try.prog 7 #[] w fun e w'=>∃ (pb : Nat) (p : IV),e = .returned (.pointer (some ⟨pb,0,none⟩)) ∧ PP w' w.heap.size pb p ∧ OkP p 0 ∧ p.st = Pf.st0 ∧ Below w.heap.size w w':=by
 refine (new_any w).mono ?_
 rintro e w' ⟨pb,p,h1,h2,h3,rfl,h4,h5⟩
 obtain ⟨ib,eb,jb,cb,E,J,C⟩:=p
 dsimp only at h1 h2 h3
 subst h1 h2 h3
 exact ⟨pb,_,rfl,h4,⟨(fun x hx=>by cases hx),(fun x hx=>by cases hx),(fun x hx=>by cases hx),Nat.le_refl _,Nat.le_refl _,Nat.le_refl _⟩,rfl,h5⟩
end
end Go.Proofs.Ytfphiomhlhpphaa
namespace Go.Proofs.Ytfphiomhlhpphaa
open Go Go.RowKit
open Pf (Site Sn ix addk alt keys)
set_option maxRecDepth 100000
set_option maxHeartbeats 2000000
section
variable {κ : Type} [DecidableEq κ]
def jn (L done : List (κ × Int)) : List (κ × Int):=done.foldl (fun l x=>alt 0 l x.1 (fun y=>Pf.more y x.2)) L
theorem jn_snoc (L done : List (κ × Int)) (x : κ × Int) : jn L (done ++ [x]) = alt 0 (jn L done) x.1 (fun y=>Pf.more y x.2):=by unfold jn;rw [List.foldl_append];rfl
def Cb (L : List (κ × Int)) : Prop:=∀ x ∈ L,1 ≤ x.2 ∧ x.2 ≤ Pf.M
theorem jn_bd : ∀ (done : List (κ × Int)) {L : List (κ × Int)},(keys L).Nodup → Cb L → Cb done → Cb (jn L done)
 | [],_,_,h,_=>h
 | x :: done,L,hn,h,hd=>jn_bd done (L:=alt 0 L x.1 (fun y=>Pf.more y x.2)) (Pf.nodup_alt hn x.1 _) (alt_bd hn h x.1 (hd x (by simp))) (fun y hy=>hd y (by simp [hy]))
theorem jn_len : ∀ (done L : List (κ × Int)),(jn L done).length ≤ L.length + done.length
 | [],L=>Nat.le_refl _
 | x :: done,L=>by
  have:=jn_len done (alt 0 L x.1 (fun y=>Pf.more y x.2))
  have:=(Pf.alt_le (d:=(0 : Int)) L x.1 (fun y=>Pf.more y x.2)).2
  show (jn (alt 0 L x.1 _) done).length ≤ L.length + (done.length + 1)
  omega
theorem jn_look {L L2 done : List (κ × Int)} (hn : (keys L).Nodup) (hb : Cb L) (h2 : (keys L2).Nodup) (hp : L2.Perm done) (k : κ) : Pf.look 0 (jn L done) k = Pf.more (Pf.look 0 L k) (Pf.look 0 L2 k):=by
 have hd : (keys done).Nodup:=((hp.map _).nodup_iff).1 h2
 have:=Pf.look_fold (d:=(0 : Int)) (fun y x=>Pf.more y x.2) done hd L k
 refine (show Pf.look 0 (jn L done) k = _ from this).trans ?_
 by_cases hk : k ∈ keys done
 ·rw [if_pos hk,Pf.look_perm h2 hp]
 ·rw [if_neg hk,Pf.look_not (l:=L2) (fun e=>hk (((hp.map (·.1)).mem_iff).1 e)),Pf.more0 (bd_look hn hb k)]
end
def JnPost {κ : Type} [DecidableEq κ] (T : KT κ) (w : World) (b : Nat) (L L2 : List (κ × Int)) (e : Ending) (w' : World) : Prop :=
 e = .returned (.tuple #[]) ∧ ∃ L',MapL T vI w' b L' ∧ (∀ k,Pf.look 0 L' k = Pf.more (Pf.look 0 L k) (Pf.look 0 L2 k)) ∧ Cb L' ∧ L'.length ≤ L.length + L2.length ∧ Chg (fun i=>i = b) w w'
theorem perm_len {α : Type} {L done todo : List α} (h : L.Perm (done ++ todo)) : done.length ≤ L.length:=by
 have:=h.length_eq
 rw [List.length_append] at this
 omega
theorem joinI_any {w : World} {b b2 : Nat} {L L2 : List (Int × Int)} (h : MapL TI vI w b L) (h2 : MapL TI vI w b2 L2) (hne : b ≠ b2) (hb : Cb L) (hb2 : Cb L2) (hl : L.length + L2.length < maxLen) :
  Calls Try.prog 66 #[.map (some b),.map (some b2)] w (JnPost TI w b L L2):=by
 have HM:=hid h
 have HM2:=hid h2
 have HNe:=hid hne
 have HCb:=hid hb
 have HCb2:=hid hb2
 have HL:=hid hl
 have HBs:=hid (And.intro h.lt h2.lt)
 clear h h2 hb hb2 hl hne
 go_enter Try.func66,Try.ntmps66
 go_wp2_with (at_range;refine wpList_range_L _ rfl _ 73 rfl 2 ti uE rfl HM2.out ?_;intro w0 hrg0 hb0 hs0)
 have HR0:=hid hrg0
 have HB0:=hid hb0
 clear hrg0 hb0 hs0
 go_frame
 go_loopw [] (fun wr=>∃ done todo : List (Int × Int),Hid (RangeL TI vI wr b2 w.heap.size L2 done todo ∧ MapL TI vI wr b (jn L done) ∧ Chg (fun i=>i = b) w wr)) (fun wr=>wr.rangeLeft b2 w.heap.size)
 case atStart=>exact ⟨[],L2,HR0.out,HM.out.below HB0.out,Chg.of_below HB0.out⟩
 case round =>
  clear HR0 HB0
  obtain ⟨done,todo,HI⟩:=hrel
  go_wp2_with (at_next;refine wpList_next_L _ rfl _ rfl ti rfl HI.out.1 ?_ ?_)
  ·intro hp
   have HP:=hid hp
   clear hp
   go_wp2
   go_end0
   have hp:=HP.out
   exact ⟨rfl,jn L done,HI.out.2.1,jn_look HM.out.nd HCb.out HM2.out.nd hp,jn_bd done HM.out.nd HCb.out (fun x hx=>HCb2.out x (hp.mem_iff.2 hx)),by have:=jn_len done L;have:=hp.length_eq;omega,HI.out.2.2⟩
  ·intro k n todo' w1 hx hrg1 hlt hg1 hs1 hen
   have HRg:=hid hrg1
   have HLt:=hid hlt
   have hch : Chg (fun i=>i = w.heap.size) wr w1:=Chg.of_grown hg1 (fun k e=>(Option.some.inj e).symm)
   have HMw : Hid (MapL TI vI w1 b (jn L done)):=HI.out.2.1.chg hch (fun e=>by have:=HBs.out.1;omega)
   have HCw : Hid (Chg (fun i=>i = b) w w1):=HI.out.2.2.trans hch (fun i e=>.inr (by omega))
   have hdl : done.length ≤ L2.length:=by obtain ⟨D,left,cnt,-,-,hp,-⟩:=HI.out.1;exact perm_len hp
   have hdb : Cb done:=by obtain ⟨D,left,cnt,-,-,hp,-⟩:=HI.out.1;exact fun x hx=>HCb2.out x (hp.mem_iff.2 (by simp [hx]))
   have HA:=hid (addI_any HMw.out (k:=k) (n:=n) (HM2.out.ok _ (Pf.mem_keys.2 ⟨_,hx,rfl⟩)) (bd_look HMw.out.nd (jn_bd done HM.out.nd HCb.out hdb) _) (bd_of (HCb2.out _ hx)) (by have:=jn_len done L;have:=HL.out;omega))
   unfold TI vI at hen
   try (unfold sV at HA;dsimp only at HA)
   dsimp only at hen
   clear hs1 hlt hrg1 hg1 hch hx hdl hdb
   try clear hba
   go_wp2_with (go_at_call 41;go_loud (refine HA.out.mono ?_;rintro e w2 ⟨rfl,hm2,hg2⟩;have HM3:=hid hm2;have HG3:=hid hg2;clear hm2 hg2))
   have hc2 : Chg (fun i=>i = b) w1 w2:=grown_chg HG3.out
   have HR2 : Hid (RangeL TI vI w2 b2 w.heap.size L2 (done ++ [(k,n)]) todo'):=HRg.out.chg hc2 (fun e=>HNe.out e.symm) (fun e=>by have:=HBs.out.1;omega)
   have HL2 : Hid (w2.rangeLeft b2 w.heap.size = w1.rangeLeft b2 w.heap.size):=rangeLeft_keep (hc2.block _ HRg.out.lts.1 (fun e=>HNe.out e.symm)) (hc2.block _ HRg.out.lts.2 (fun e=>by have:=HBs.out.1;omega))
   have HC2 : Hid (Chg (fun i=>i = b) w w2):=HCw.out.trans hc2 (fun i e=>.inl e)
   clear hc2
   go_roundw
   case rel=>exact ⟨done ++ [(k,n)],todo',HR2.out,by rw [jn_snoc];exact HM3.out,HC2.out⟩
   case measure=>rw [HL2.out];exact HLt.out
theorem joinS_any {w : World} {b b2 : Nat} {L L2 : List (Site × Int)} (h : MapL TS vI w b L) (h2 : MapL TS vI w b2 L2) (hne : b ≠ b2) (hb : Cb L) (hb2 : Cb L2) (hl : L.length + L2.length < maxLen) :
  Calls Try.prog 67 #[.map (some b),.map (some b2)] w (JnPost TS w b L L2):=by
 have HM:=hid h
 have HM2:=hid h2
 have HNe:=hid hne
 have HCb:=hid hb
 have HCb2:=hid hb2
 have HL:=hid hl
 have HBs:=hid (And.intro h.lt h2.lt)
 clear h h2 hb hb2 hl hne
 go_enter Try.func67,Try.ntmps67
 go_wp2_with (at_range;refine wpList_range_L _ rfl _ 74 rfl 2 ts uJ rfl HM2.out ?_;intro w0 hrg0 hb0 hs0)
 have HR0:=hid hrg0
 have HB0:=hid hb0
 clear hrg0 hb0 hs0
 go_frame
 go_loopw [] (fun wr=>∃ done todo : List (Site × Int),Hid (RangeL TS vI wr b2 w.heap.size L2 done todo ∧ MapL TS vI wr b (jn L done) ∧ Chg (fun i=>i = b) w wr)) (fun wr=>wr.rangeLeft b2 w.heap.size)
 case atStart=>exact ⟨[],L2,HR0.out,HM.out.below HB0.out,Chg.of_below HB0.out⟩
 case round =>
  clear HR0 HB0
  obtain ⟨done,todo,HI⟩:=hrel
  go_wp2_with (at_next;refine wpList_next_L _ rfl _ rfl ts rfl HI.out.1 ?_ ?_)
  ·intro hp
   have HP:=hid hp
   clear hp
   go_wp2
   go_end0
   have hp:=HP.out
   exact ⟨rfl,jn L done,HI.out.2.1,jn_look HM.out.nd HCb.out HM2.out.nd hp,jn_bd done HM.out.nd HCb.out (fun x hx=>HCb2.out x (hp.mem_iff.2 hx)),by have:=jn_len done L;have:=hp.length_eq;omega,HI.out.2.2⟩
  ·intro x1 x2 n todo' w1 hx hrg1 hlt hg1 hs1 hen
   have HRg:=hid hrg1
   have HLt:=hid hlt
   have hch : Chg (fun i=>i = w.heap.size) wr w1:=Chg.of_grown hg1 (fun k e=>(Option.some.inj e).symm)
   have HMw : Hid (MapL TS vI w1 b (jn L done)):=HI.out.2.1.chg hch (fun e=>by have:=HBs.out.1;omega)
   have HCw : Hid (Chg (fun i=>i = b) w w1):=HI.out.2.2.trans hch (fun i e=>.inr (by omega))
   have hdl : done.length ≤ L2.length:=by obtain ⟨D,left,cnt,-,-,hp,-⟩:=HI.out.1;exact perm_len hp
   have hdb : Cb done:=by obtain ⟨D,left,cnt,-,-,hp,-⟩:=HI.out.1;exact fun x hx=>HCb2.out x (hp.mem_iff.2 (by simp [hx]))
   have hba : Below w1.heap.size w1 (w1.alloc (.cells #[.int .i64 x1,.int .i64 x2] 29)):=(Below.refl _ _).alloc (Nat.le_refl _) _
   have HBa:=hid hba
   have HA:=hid (addS_any (HMw.out.below hba) (k:=((x1,x2) : Site)) (n:=n) (HM2.out.ok _ (Pf.mem_keys.2 ⟨_,hx,rfl⟩)) (bd_look HMw.out.nd (jn_bd done HM.out.nd HCb.out hdb) _) (bd_of (HCb2.out _ hx)) (by have:=jn_len done L;have:=HL.out;omega))
   unfold TS vI at hen
   try (unfold sV at HA;dsimp only at HA)
   dsimp only at hen
   clear hs1 hlt hrg1 hg1 hch hx hdl hdb
   try clear hba
   go_wp2_with (go_at_call 42;go_loud (refine HA.out.mono ?_;rintro e w2 ⟨rfl,hm2,hg2⟩;have HM3:=hid hm2;have HG3:=hid hg2;clear hm2 hg2))
   have hc2 : Chg (fun i=>i = b) w1 w2:=(Chg.of_below HBa.out).trans (grown_chg HG3.out) (fun i e=>.inl e)
   have HR2 : Hid (RangeL TS vI w2 b2 w.heap.size L2 (done ++ [(((x1,x2) : Site),n)]) todo'):=HRg.out.chg hc2 (fun e=>HNe.out e.symm) (fun e=>by have:=HBs.out.1;omega)
   have HL2 : Hid (w2.rangeLeft b2 w.heap.size = w1.rangeLeft b2 w.heap.size):=rangeLeft_keep (hc2.block _ HRg.out.lts.1 (fun e=>HNe.out e.symm)) (hc2.block _ HRg.out.lts.2 (fun e=>by have:=HBs.out.1;omega))
   have HC2 : Hid (Chg (fun i=>i = b) w w2):=HCw.out.trans hc2 (fun i e=>.inl e)
   clear hc2
   go_roundw
   case rel=>exact ⟨done ++ [(((x1,x2) : Site),n)],todo',HR2.out,by rw [jn_snoc];exact HM3.out,HC2.out⟩
   case measure=>rw [HL2.out];exact HLt.out
end Go.Proofs.Ytfphiomhlhpphaa
namespace Go.Proofs.Ytfphiomhlhpphaa
open Go Go.RowKit
open Pf (Site Sn ix addk alt keys)
set_option maxRecDepth 100000
set_option maxHeartbeats 2000000
theorem alt_alt {κ β : Type} [DecidableEq κ] {d : β} : ∀ (l : List (κ × β)) (k : κ) (g h : β → β),alt d (alt d l k g) k h = alt d l k (fun y=>h (g y))
 | [],k,g,h=>by
  show (if k = k then [(k,h (g d))] else _) = _
  rw [if_pos rfl]
  rfl
 | x :: l,k,g,h=>by
  by_cases e : x.1 = k
  ·have e1 : alt d (x :: l) k g = (x.1,g x.2) :: l:=if_pos e
   rw [e1]
   exact (if_pos e : alt d ((x.1,g x.2) :: l) k h = (x.1,h (g x.2)) :: l).trans (if_pos e : alt d (x :: l) k (fun y=>h (g y)) = _).symm
  ·have e1 : alt d (x :: l) k g = x :: alt d l k g:=if_neg e
   rw [e1]
   refine (if_neg e : alt d (x :: alt d l k g) k h = x :: alt d (alt d l k g) k h).trans ?_
   rw [alt_alt l k g h]
   exact (if_neg e : alt d (x :: l) k (fun y=>h (g y)) = _).symm
theorem fold_snoc (c : List Sn × Bool) (l : List Sn) (y : Sn) : Pf.fold c (l ++ [y]) = Pf.cnt (Pf.fold c l) y.1 y.2:=by unfold Pf.fold;rw [List.foldl_append];rfl
structure SJ (w2 wr : World) (base : Nat) (p : IV) (s : Site) (S : List Sn) (j : Nat) (C' : List (Site × Cl)) : Prop where
 ip : IP wr base { p with C:=C' }
 chg : Chg (fun i=>i = p.cb ∨ (Pf.look cl0 p.C s).1 = some i) w2 wr
 is : (j = 0 ∧ C' = p.C) ∨ ∃ b,C' = alt cl0 p.C s (fun _=>(some b,Pf.fold (p.st.ca s) (S.take j))) ∧ ((Pf.look cl0 p.C s).1 = some b ∨ ((Pf.look cl0 p.C s).1 = none ∧ w2.heap.size ≤ b))
section
variable {w2 wr w4 : World} {base : Nat} {p : IV} {s : Site} {S : List Sn} {j : Nat} {C' : List (Site × Cl)}
theorem SJ.at (h : SJ w2 wr base p s S j C') : (Pf.look cl0 C' s).2 = Pf.fold (p.st.ca s) (S.take j):=by
 rcases h.is with ⟨rfl,rfl⟩|⟨b,rfl,-⟩
 ·rfl
 ·rw [Pf.look_alt,if_pos rfl]
theorem SJ.len (h : SJ w2 wr base p s S j C') : C'.length ≤ p.C.length + 1:=by
 rcases h.is with ⟨rfl,rfl⟩|⟨b,rfl,-⟩
 ·omega
 ·exact (Pf.alt_le p.C s _).2
theorem SJ.below (h : SJ w2 wr base p s S j C') (hb : Below wr.heap.size wr w4) : SJ w2 w4 base p s S j C':=⟨h.ip.below hb,h.chg.below hb,h.is⟩
theorem SJ.step (h : SJ w2 wr base p s S j C') {k n : Int} (hS : S[j]? = some (k,n)) {e : Ending} (hc : CallI wr base { p with C:=C' } s k n e w4) : e = .returned (.tuple #[]) ∧ ∃ C2,SJ w2 w4 base p s S (j + 1) C2:=by
 obtain ⟨rfl,b',hi,hch,hb⟩:=hc
 have hT : Pf.fold (p.st.ca s) (S.take (j + 1)) = Pf.cnt (Pf.fold (p.st.ca s) (S.take j)) k n:=by
  rw [List.take_add_one,hS]
  exact fold_snoc _ _ (k,n)
 refine ⟨rfl,_,hi,h.chg.trans hch (fun i e=>?_),.inr ⟨b',?_,?_⟩⟩
 ·rcases e with e|e
  ·exact .inl (.inl e)
  ·rcases h.is with ⟨-,e2⟩|⟨b,e2,e3⟩
   ·dsimp only at e
    rw [e2] at e
    exact .inl (.inr e)
   ·dsimp only at e
    rw [e2,Pf.look_alt,if_pos rfl] at e
    obtain rfl:=Option.some.inj e
    exact e3.imp .inr (fun e=>e.2)
 ·show alt cl0 C' s _ = _
  rcases h.is with ⟨e1,e2⟩|⟨b,e2,e3⟩
  ·rw [e2,Pf.alt_const,hT,e1]
   rfl
  ·rw [e2,alt_alt,hT]
 ·rcases h.is with ⟨e1,e2⟩|⟨b,e2,e3⟩
  ·dsimp only at hb
   rw [e2] at hb
   exact hb.imp_right (fun e=>⟨e.1,Nat.le_trans h.chg.size e.2⟩)
  ·dsimp only at hb
   rw [e2,Pf.look_alt,if_pos rfl] at hb
   rcases hb with e|⟨e,-⟩
   ·obtain rfl:=Option.some.inj e
    exact e3
   ·cases e
end
def JoinS (w : World) (base : Nat) (p : IV) (s : Site) (q : List Sn × Bool) (e : Ending) (w' : World) : Prop :=
 e = .returned (.tuple #[]) ∧ ∃ b,IP w' base (p.setC s b (Pf.merge (p.st.ca s) q)) ∧ Chg (fun i=>i = p.cb ∨ (Pf.look cl0 p.C s).1 = some i) w w' ∧ ((Pf.look cl0 p.C s).1 = some b ∨ ((Pf.look cl0 p.C s).1 = none ∧ w.heap.size ≤ b))
theorem joinSite_any {w : World} {base : Nat} {p : IV} (h : IP w base p) (hw : base ≤ w.heap.size) {s : Site} (hs : TS.ok s) {c2 : Cl} (hc2 : ClR w c2) (hok : Pf.OkC (p.st.ca s)) (hok2 : Pf.OkC c2.2) (hne : c2.2.1 ≠ []) (h1 : ∀ y ∈ c2.2.1,1 ≤ y.2) (hk8 : ∀ y ∈ c2.2.1,I8 y.1) (hl : p.C.length + 1 < maxLen) :
  Calls Try.prog 68 #[.pointer (some ⟨p.ib,0,none⟩),sV s,vC c2] w (JoinS w base p s c2.2):=by
 obtain ⟨wa,hwa⟩ : ∃ x,x = w.alloc (.cells #[.int .i64 s.1,.int .i64 s.2] 29):=⟨_,rfl⟩
 have hba : Below w.heap.size w wa:=by rw [hwa];exact (Below.refl _ _).alloc (Nat.le_refl _) _
 have bxa : BX wa w.heap.size #[.int .i64 s.1,.int .i64 s.2] 29:=by rw [hwa];exact BX.new w _ _
 have hza : wa.heap.size = w.heap.size + 1:=by rw [hwa];simp
 obtain ⟨w1,hw1⟩ : ∃ x,x = wa.alloc (.cells #[.map c2.1,.bool c2.2.2] 85):=⟨_,rfl⟩
 have hbb : Below wa.heap.size wa w1:=by rw [hw1];exact (Below.refl _ _).alloc (Nat.le_refl _) _
 have bxb : BX w1 (w.heap.size + 1) #[.map c2.1,.bool c2.2.2] 85:=by rw [hw1,← hza];exact BX.new wa _ _
 have hb1:=belows hba hbb hba.size
 have h1p:=h.below hb1
 have HR:=hid (ranked_any (show MO TI vI w1 c2.1 c2.2.1 from hc2.below hb1) (by have:=hok2.ln;omega) 1)
 unfold RkPost at HR
 rw [all_at1 h1] at HR
 have HBA:=hid (bxa.below hbb)
 have HBB:=hid bxb
 have HB1:=hid hb1
 have HP:=hid h1p
 have HH:=hid h
 have HW:=hid hw
 have HSk:=hid hs
 have HOk:=hid hok
 have HL:=hid hl
 have HSp:=hid (Pf.srt_perm c2.2.1)
 obtain ⟨S,hS⟩ : ∃ S,Pf.srt c2.2.1 = S:=⟨_,rfl⟩
 rw [hS] at HR HSp
 have HSe:=hid hS
 have HSb : Hid (∀ y ∈ S,Pf.Bd y.2 ∧ I8 y.1):=fun y hy=>⟨hok2.bd y (HSp.out.mem_iff.1 hy),hk8 y (HSp.out.mem_iff.1 hy)⟩
 have HSl : Hid (S.length ≤ 4 ∧ 0 < S.length):=⟨by rw [HSp.out.length_eq];exact hok2.ln,by rw [HSp.out.length_eq];exact List.length_pos_iff.2 hne⟩
 have a0 : w1.cell? ⟨w.heap.size + 1,0,none⟩ = some (.map c2.1):=bxb.cell 0
 have HW1:=hid (And.intro hwa hw1)
 unfold sV vC
 obtain ⟨mo,l2,m2⟩:=c2
 dsimp only at *
 clear hwa hw1 hba hbb bxa bxb hza hb1 h1p h hw hs hc2 hok hok2 hne h1 hk8 hl hS
 go_enter Try.func68,Try.ntmps68
 go_upto_region 1 with fail
 rw [← HW1.out.1,← HW1.out.2]
 go_wp2_with (go_at_call 45;refine HR.out.mono ?_;rintro e w2 ⟨rv,rfl,ho,hb⟩;have HO:=hid ho;have HB2:=hid hb;obtain ⟨ra,rc,hrv⟩:=own_form ho;subst hrv;clear ho hb)
 have HI0 : Hid (∃ C',SJ w2 w2 base p s S 0 C'):=⟨p.C,HP.out.below HB2.out,Chg.refl _ _,.inl ⟨rfl,rfl⟩⟩
 have HOff : Hid (∀ i,(i = p.cb ∨ (Pf.look cl0 p.C s).1 = some i) → i < w.heap.size):=fun i e=>HH.out.lt i (e.elim (fun e=>.inr (.inr (.inr (.inl e)))) (fun e=>HH.out.clb e))
 have HZ : Hid (w.heap.size + 2 ≤ w1.heap.size ∧ w1.heap.size ≤ w2.heap.size):=⟨HBB.out.sz,HB2.out.size⟩
 go_loopw [13] (fun i wr=>∃ k : Nat,i = .int .i64 (k : Int) ∧ k ≤ S.length ∧ Hid (∃ C',SJ w2 wr base p s S k C')) (fun i _=>S.length - (intOf i).toNat)
 case atStart=>exact ⟨0,rfl,Nat.zero_le _,HI0⟩
 case round =>
  clear HI0 a0
  obtain ⟨k,rfl,hk,HI⟩:=hrel
  obtain ⟨C',hJ⟩:=HI.out
  have HJ:=hid hJ
  have HA':=hid ((HBA.out.below HB2.out).chg hJ.chg (fun e=>by have:=HOff.out _ e;omega))
  have HB':=hid ((HBB.out.below HB2.out).chg hJ.chg (fun e=>by have:=HOff.out _ e;omega))
  have hsl:=HSl.out
  have HOr : Hid (RwR wr w1.heap.size (.slice ra S.length rc) S):=owns_chg HO.out hJ.chg (fun i e e2=>by have:=HOff.out _ e2;have:=Kit.own_base HO.out i e;have:=HZ.out;omega)
  clear hJ HI
  by_cases hlt : k < S.length
  ·obtain ⟨⟨kk,n⟩,hx⟩ : ∃ x,S[k]? = some x:=⟨_,List.getElem?_eq_getElem hlt⟩
   obtain ⟨g,cap,hv,hg1,hg2,c0,c1⟩:=HOr.out.at hx
   obtain ⟨rfl,-,rfl⟩:=Value.slice.inj hv
   dsimp only at c0 c1
   have hbx : Below wr.heap.size wr (wr.alloc (.cells #[.int .i64 kk,.int .i64 n] 87)):=(Below.refl _ _).alloc (Nat.le_refl _) _
   have HBx:=hid hbx
   have HXs:=hid hx
   have hbk:=HSb.out _ (List.mem_of_getElem? hx)
   have b0 : wr.cell? ⟨w.heap.size,0,none⟩ = some (.int .i64 s.1):=HA'.out.cell 0
   have b1 : wr.cell? ⟨w.heap.size,1,none⟩ = some (.int .i64 s.2):=HA'.out.cell 1
   have hza:=HA'.out.sz
   have HC:=hid (call_any (HJ.out.ip.below hbx) (Nat.le_trans HW.out (Nat.le_trans (Nat.le_of_lt hza) hbx.size)) HSk.out hbk.2 hbk.1 (by show Pf.OkC (Pf.look cl0 C' s).2;rw [HJ.out.at];exact Pf.okC_fold HOk.out (fun y hy=>(HSb.out y (List.mem_of_mem_take hy)).1)) (by show C'.length < maxLen;have:=HJ.out.len;have:=HL.out;omega))
   unfold sV at HC
   dsimp only at HC
   clear hv hx hbx hbk
   go_wp2_with (go_at_call 43;refine HC.out.mono ?_;intro e w4 hc4;obtain ⟨rfl,C2,hJ2⟩:=(HJ.out.below HBx.out).step HXs.out hc4;have HJ2:=hid hJ2;clear hc4 hJ2)
   go_roundw
   case rel=>exact ⟨k + 1,by go_num,by omega,C2,HJ2.out⟩
   case measure=>simp [intOf];omega
  ·obtain rfl : k = S.length:=by omega
   obtain ⟨b,hC',hbo⟩ : ∃ b,C' = alt cl0 p.C s (fun _=>(some b,Pf.fold (p.st.ca s) S)) ∧ ((Pf.look cl0 p.C s).1 = some b ∨ ((Pf.look cl0 p.C s).1 = none ∧ w2.heap.size ≤ b)):=by
    rcases HJ.out.is with ⟨e,-⟩|⟨b,e,e2⟩
    ·omega
    ·rw [List.take_length] at e
     exact ⟨b,e,e2⟩
   have hlk : Pf.look cl0 C' s = (some b,Pf.fold (p.st.ca s) S):=by rw [hC',Pf.look_alt,if_pos rfl]
   have HC':=hid hC'
   have HBo:=hid hbo
   obtain ⟨⟨lf,mf⟩,hF⟩ : ∃ F,Pf.fold (p.st.ca s) S = F:=⟨_,rfl⟩
   rw [hF] at hlk
   have HF:=hid hF
   have lk1:=(HJ.out.ip.mc.below (w':=wr.drew) (Below.drew (Below.refl _ _))).look ts uC cl0 (zC wr.drew) HSk.out
   have lk2:=fun o=>(HJ.out.ip.mc.below (w':=(wr.alloc o).drew) (Below.drew ((Below.refl _ _).alloc (Nat.le_refl _) _))).look ts uC cl0 (zC (wr.alloc o).drew) HSk.out
   dsimp only at lk1 lk2
   rw [hlk] at lk1 lk2
   have HLk:=hid hlk
   unfold TS vC at lk1 lk2
   dsimp only at lk1 lk2
   have b0 : wr.cell? ⟨w.heap.size,0,none⟩ = some (.int .i64 s.1):=HA'.out.cell 0
   have b1 : wr.cell? ⟨w.heap.size,1,none⟩ = some (.int .i64 s.2):=HA'.out.cell 1
   have i2 : wr.cell? ⟨p.ib,2,none⟩ = some (.map (some p.cb)):=HJ.out.ip.ins.cell 2
   have hza:=HA'.out.sz
   have hzi:=HJ.out.ip.ins.sz
   clear hC' hbo hlk hF
   dsimp only at hzi
   go_upto_region 6 with fail
   go_region
   go_upto_region 7 with fail
   refine region_named fun W7 hW7=>?_
   have HB7 : Hid (Below wr.heap.size wr W7):=by show Below _ _ _;rw [hW7];exact Below.drew ((Below.refl _ _).alloc (Nat.le_refl _) _)
   have hy : BX W7 wr.heap.size #[.map (some b),.bool mf] 85:=by rw [hW7];exact BX.new wr _ _
   have HY:=hid hy
   have y0 : W7.cell? ⟨wr.heap.size,0,none⟩ = some (.map (some b)):=hy.cell 0
   have y1 : W7.cell? ⟨wr.heap.size,1,none⟩ = some (.bool mf):=hy.cell 1
   have g1 : W7.frozen? ⟨wr.heap.size,1,none⟩ = false:=hy.frozen 1
   have o1 : W7.cell? ⟨w.heap.size + 1,1,none⟩ = some (.bool m2):=(HB'.out.below HB7.out).cell 1
   clear hW7 hy lk1 lk2 i2 b0 b1 hzi hza
   obtain ⟨m8,hm8⟩ : ∃ x,(mf || m2) = x:=⟨_,rfl⟩
   have HM8:=hid hm8
   have HW8 : Hid (∀ W8,W8 = W7.setCell ⟨wr.heap.size,1,none⟩ (.bool m8) → BX W8 wr.heap.size #[.map (some b),.bool m8] 85 ∧ Chg (fun i=>i = wr.heap.size) W7 W8):=fun W8 e=>⟨by rw [e];exact box_set HY.out 1 (.bool m8),by rw [e];exact (Chg.refl (fun i=>i = wr.heap.size) W7).set (p:=⟨wr.heap.size,1,none⟩) (.inl rfl) _⟩
   have HMr : Hid (Pf.merge (p.st.ca s) (l2,m2) = (lf,m8)):=by
    show ((Pf.fold (p.st.ca s) (Pf.srt l2)).1,(Pf.fold (p.st.ca s) (Pf.srt l2)).2 || m2) = _
    rw [HSe.out,HF.out,← HM8.out]
   have HT8 : Hid (∀ W8,W8 = W7.setCell ⟨wr.heap.size,1,none⟩ (.bool m8) → Chg (fun i=>i = wr.heap.size) wr W8):=fun W8 e=>(Chg.of_below HB7.out).trans (HW8.out W8 e).2 (fun i e=>.inl e)
   have HIp : Hid (∀ W8,W8 = W7.setCell ⟨wr.heap.size,1,none⟩ (.bool m8) → IP W8 base { p with C:=C' }):=fun W8 e=>HJ.out.ip.chg (HT8.out W8 e) (fun k hk e=>by have:=HJ.out.ip.lt k hk;omega)
   have HPut : Hid (∀ W8,W8 = W7.setCell ⟨wr.heap.size,1,none⟩ (.bool m8) → ∃ w9,(Instr.mapUpdate 75 (.map (some p.cb)) (.agg #[.int .i64 s.1,.int .i64 s.2]) (.agg #[.map (some b),.bool m8])).run Try.prog W8.drew = .ok () w9 ∧ MapL TS vC w9 p.cb (alt cl0 C' s (fun _=>(some b,lf,m8))) ∧ W8.grownBy w9 (some p.cb)):=fun W8 e=>by
    obtain ⟨w9,q1,q2,q3⟩:=((HIp.out W8 e).mc.below (w':=W8.drew) (Below.drew (Below.refl _ _))).put ts uC cl0 (by show C'.length < maxLen;have:=HJ.out.len;have:=HL.out;omega) HSk.out (some b,lf,m8)
    exact ⟨w9,q1,q2,⟨q3.os,q3.tape,q3.output,q3.size,q3.block⟩⟩
   have HFin : Hid (∀ W8 w9,W8 = W7.setCell ⟨wr.heap.size,1,none⟩ (.bool m8) → MapL TS vC w9 p.cb (alt cl0 C' s (fun _=>(some b,lf,m8))) → W8.grownBy w9 (some p.cb) → JoinS w base p s (l2,m2) (.returned (.tuple #[])) w9):=fun W8 w9 e hm hg=>by
    have hzr:=HA'.out.sz
    have c1 : Chg (fun i=>i = p.cb ∨ (Pf.look cl0 p.C s).1 = some i) w wr:=(Chg.of_below (belows HB1.out HB2.out HB1.out.size)).trans HJ.out.chg (fun i e=>.inl e)
    have c2 : Chg (fun i=>i = p.cb ∨ (Pf.look cl0 p.C s).1 = some i) w W8:=c1.trans (HT8.out W8 e) (fun i e=>.inr (by omega))
    have c3 : Chg (fun i=>i = p.cb ∨ (Pf.look cl0 p.C s).1 = some i) w w9:=c2.grown hg (fun j e=>.inl (.inl (Option.some.inj e).symm))
    have hbo : (Pf.look cl0 p.C s).1 = some b ∨ ((Pf.look cl0 p.C s).1 = none ∧ w.heap.size ≤ b):=HBo.out.imp_right (fun e=>⟨e.1,Nat.le_trans HB1.out.size (Nat.le_trans HB2.out.size e.2)⟩)
    have c4 : Chg (fun i=>i = p.cb ∨ i = b) w w9:=⟨c3.os,c3.tape,c3.output,c3.size,fun i hi hn=>c3.block i hi (fun e=>hn (e.imp id (fun e=>by
     rcases hbo with e2|⟨e2,-⟩
     ·rw [e2] at e
      exact (Option.some.inj e).symm
     ·rw [e2] at e
      cases e)))⟩
    have hsm : s ∈ keys C':=by rw [HC'.out];exact Pf.keys_alt_mem.2 (.inr rfl)
    obtain ⟨b',e1,e2,-,-,e5⟩:=HJ.out.ip.ml _ (Pf.mem_look_iff (d:=cl0) HJ.out.ip.mc.nd hsm)
    dsimp only at e1 e2 e5
    rw [HLk.out] at e1 e2
    obtain rfl:=Option.some.inj e1
    have hm2 : MapL TI vI w9 b lf:=(e2.chg (HT8.out W8 e) (fun e=>by have:=e2.lt;omega)).chg (grown_chg hg) e5
    refine ⟨rfl,b,?_,c3,hbo⟩
    show IP w9 base (p.setC s b (Pf.merge (p.st.ca s) (l2,m2)))
    rw [HMr.out]
    rw [HC'.out,alt_alt] at hm
    exact HH.out.called HW.out c4 hbo hm hm2
   clear HMr HBo
   cases mf <;> cases m2
   all_goals
    first|obtain rfl : m8 = true:=HM8.out.symm|obtain rfl : m8 = false:=HM8.out.symm
    go_upto_region 8 with fail
    refine region_named fun W8 hW8=>?_
    have h8:=HW8.out W8 hW8
    have hT:=HT8.out W8 hW8
    have hzr:=HA'.out.sz
    have hip:=HIp.out W8 hW8
    have i2 : W8.cell? ⟨p.ib,2,none⟩ = some (.map (some p.cb)):=hip.ins.cell 2
    have zi : p.ib < W8.heap.size:=hip.ins.sz
    have ha8:=HA'.out.chg hT (fun e=>by omega)
    have b0 : W8.cell? ⟨w.heap.size,0,none⟩ = some (.int .i64 s.1):=ha8.cell 0
    have b1 : W8.cell? ⟨w.heap.size,1,none⟩ = some (.int .i64 s.2):=ha8.cell 1
    have y0 : W8.cell? ⟨wr.heap.size,0,none⟩ = some (.map (some b)):=h8.1.cell 0
    have y1:=h8.1.cell 1
    obtain ⟨w9,hput,hm9,hg9⟩:=HPut.out W8 hW8
    have HEnd:=hid (HFin.out W8 w9 hW8 hm9 hg9)
    simp at y1
    clear hm9 hg9 hip hT h8 ha8 hW8
    go_region
    go_wp2
    go_end0
    exact HEnd.out
end Go.Proofs.Ytfphiomhlhpphaa
namespace Go.Proofs.Ytfphiomhlhpphaa
open Go Go.RowKit
open Pf (Site Sn ix addk alt keys)
set_option maxRecDepth 100000
set_option maxHeartbeats 2000000
def NextMore {κ β : Type} (T : KT κ) (val : β → Value) (w : World) (b r : Nat) (L done : List (κ × β)) (K : Value → World → Prop) : Prop :=
 ∀ x todo' w',x ∈ L → RangeL T val w' b r L (done ++ [x]) todo' → w'.rangeLeft b r < w.rangeLeft b r → w.grownBy w' (some r) → w'.heap.size = w.heap.size → (Instr.entry (.pointer (some ⟨r,0,none⟩))).run Try.prog w' = .ok (.tuple #[T.mkv x.1,val x.2]) w' → K (.tuple #[.bool true,T.mkv x.1,val x.2]) w'
theorem wpList_next_M {κ β : Type} {T : KT κ} {val : β → Value} (w : World) {ops : Array Oper} {rest : List Oper} {o : Oper} {a : Act} {Q : Exit → Act → World → Prop} {b r : Nat} {L done todo : List (κ × β)} (hg : o.guard = none) (it : Operand) (hop : o.op = Op.next it false) (hT : T.Is) (hit : a.eval it = .pointer (some ⟨r,0,none⟩)) (h : RangeL T val w b r L done todo)
  (hDone : L.Perm done → wpList Try.prog ops Q rest (a.put o.dst (.tuple #[.bool false])) w)
  (hMore : NextMore T val w b r L done (fun v w'=>wpList Try.prog ops Q rest (a.put o.dst v) w')) :
  wpList Try.prog ops Q (o :: rest) a w:=wpList_next_L w hg it hop hT hit h hDone hMore
theorem fold_fine : ∀ (l : List Sn) {c : List Sn × Bool},Pf.OkC c → (∀ y ∈ c.1,1 ≤ y.2) → (∀ y ∈ l,1 ≤ y.2 ∧ y.2 ≤ Pf.M) → Pf.OkC (Pf.fold c l) ∧ (∀ y ∈ (Pf.fold c l).1,1 ≤ y.2) ∧ (l ≠ [] ∨ c.1 ≠ [] → (Pf.fold c l).1 ≠ [])
 | [],c,h,h1,_=>⟨h,h1,fun e=>e.elim (fun e=>absurd rfl e) id⟩
 | y :: l,c,h,h1,hl=>by
  have hc:=cnt_fine (k:=y.1) h h1 (hl y (by simp))
  have:=fold_fine l (c:=Pf.cnt c y.1 y.2) hc.1 hc.2.2 (fun z hz=>hl z (by simp [hz]))
  exact ⟨this.1,this.2.1,fun _=>this.2.2 (.inr hc.2.1)⟩
theorem merge_fine {c q : List Sn × Bool} (h : Pf.OkC c) (h1 : ∀ y ∈ c.1,1 ≤ y.2) (hq : Pf.OkC q) (hq1 : ∀ y ∈ q.1,1 ≤ y.2) (hne : q.1 ≠ []) : Pf.OkC (Pf.merge c q) ∧ (Pf.merge c q).1 ≠ [] ∧ ∀ y ∈ (Pf.merge c q).1,1 ≤ y.2:=by
 have hp:=Pf.srt_perm q.1
 have:=fold_fine (Pf.srt q.1) h h1 (fun y hy=>⟨hq1 y (hp.mem_iff.1 hy),(hq.bd y (hp.mem_iff.1 hy)).2⟩)
 refine ⟨Pf.okC_merge h hq,this.2.2 (.inl (fun e=>hne ?_)),this.2.1⟩
 rw [e] at hp
 exact hp.symm.eq_nil
theorem merge_none (c : List Sn × Bool) : Pf.merge c ([],false) = c:=by
 show (c.1,(c.2 || false)) = c
 rw [Bool.or_false]
structure QJ (wm wr : World) (base : Nat) (p q : IV) (done C' : List (Site × Cl)) : Prop where
 ip : IP wr base { p with C:=C' }
 ca : ∀ y,(Pf.look cl0 C' y).2 = if y ∈ keys done then Pf.merge (p.st.ca y) (q.st.ca y) else p.st.ca y
 bc : ∀ x ∈ C',Pf.OkC x.2.2 ∧ x.2.2.1 ≠ [] ∧ ∀ y ∈ x.2.2.1,1 ≤ y.2
 len : C'.length ≤ p.C.length + done.length
 chg : Chg p.foot wm wr
 fr : ∀ i,(IV.foot { p with C:=C' }) i → p.foot i ∨ wm.heap.size < i
section
variable {wm wr w2 w4 : World} {base : Nat} {p q : IV} {done C' : List (Site × Cl)}
theorem foot_cb (p : IV) : p.foot p.cb:=.inr (.inr (.inr (.inl rfl)))
theorem QJ.step (h : QJ wm wr base p q done C') (hz : wm.heap.size < wr.heap.size) (hb : Below wr.heap.size wr w2) {s : Site} {c2 : Cl} (hs : s ∉ keys done) (hc2 : c2.2 = q.st.ca s) (okp : Pf.OkC (p.st.ca s)) (okp1 : ∀ y ∈ (p.st.ca s).1,1 ≤ y.2) (hq : Pf.OkC c2.2 ∧ c2.2.1 ≠ [] ∧ ∀ y ∈ c2.2.1,1 ≤ y.2) {e : Ending}
  (hj : JoinS w2 base { p with C:=C' } s c2.2 e w4) : e = .returned (.tuple #[]) ∧ ∃ C2,QJ wm w4 base p q (done ++ [(s,c2)]) C2 ∧ Chg (IV.foot { p with C:=C' }) w2 w4:=by
 obtain ⟨rfl,b,hi,hch,hbo⟩:=hj
 have hip2:=h.ip.below hb
 have hst : (IV.st { p with C:=C' }).ca s = p.st.ca s:=by
  show (Pf.look cl0 C' s).2 = _
  rw [h.ca,if_neg hs]
 have hch2 : Chg (IV.foot { p with C:=C' }) w2 w4:=hch.mono (fun i _ e=>e.elim (fun e=>.inr (.inr (.inr (.inl e)))) (fun e=>hip2.clb e))
 have hb1 : IV.foot { p with C:=C' } b ∨ w2.heap.size ≤ b:=hbo.imp (fun e=>hip2.clb e) (fun e=>e.2)
 have hzw:=hb.size
 refine ⟨rfl,_,⟨hi,fun y=>?_,fun x hx=>?_,?_,?_,fun i hi2=>?_⟩,hch2⟩
 ·show (Pf.look cl0 (alt cl0 C' s _) y).2 = _
  rw [Pf.look_alt]
  by_cases ey : y = s
  ·rw [if_pos ey,if_pos (by rw [ey];unfold keys;simp),ey,hst,hc2]
  ·rw [if_neg ey,h.ca]
   by_cases hy : y ∈ keys done
   ·rw [if_pos hy,if_pos (by unfold keys at *;simp only [List.map_append,List.mem_append];exact .inl hy)]
   ·rw [if_neg hy,if_neg (by unfold keys at *;simp only [List.map_append,List.mem_append,List.map_cons,List.map_nil,List.mem_singleton];exact fun e=>e.elim hy ey)]
 ·rcases alt_is h.ip.mc.nd hx with ⟨-,e⟩|⟨-,hx⟩
  ·rw [e,hst]
   exact merge_fine okp okp1 hq.1 hq.2.2 hq.2.1
  ·exact h.bc x hx
 ·have:=(Pf.alt_le (d:=cl0) C' s (fun _=>((some b,Pf.merge ((IV.st { p with C:=C' }).ca s) c2.2) : Cl))).2
  have:=h.len
  rw [List.length_append]
  show (alt cl0 C' s _).length ≤ _
  simp only [List.length_singleton]
  omega
 ·exact ((h.chg.below hb).trans hch2 (fun i e=>(h.fr i e).imp id (fun e=>Nat.le_of_lt e)))
 ·rcases setC_foot (p:={ p with C:=C' }) h.ip.mc.nd hi2 with e|rfl
  ·exact h.fr i e
  ·exact hb1.elim (fun e=>h.fr _ e) (fun e=>.inr (by omega))
end
def JoinP (w : World) (base n m : Nat) (p q : IV) (e : Ending) (w' : World) : Prop :=
 e = .returned (.tuple #[]) ∧ ∃ p',p'.ib = p.ib ∧ IP w' base p' ∧ OkP p' (n + m) ∧ p'.st = p.st.add q.st ∧ Chg p.foot w w' ∧ ∀ i,p'.foot i → p.foot i ∨ w.heap.size ≤ i
theorem join_any {w : World} {base base2 n m : Nat} {p q : IV} (h : IP w base p) (hw : base ≤ w.heap.size) (hq : IP w base2 q) (ok : OkP p n) (okq : OkP q m) (hoff : ∀ i,p.foot i → ¬ q.foot i) (hn : n + m < 9000000000000) :
  Calls Try.prog 48 #[.pointer (some ⟨p.ib,0,none⟩),.pointer (some ⟨q.ib,0,none⟩)] w (JoinP w base n m p q):=by
 have HI:=hid (fun W (hb : Below w.heap.size w W)=>joinI_any (h.me.below hb) (hq.me.below hb) (fun e=>hoff p.eb (.inr (.inl rfl)) (.inr (.inl e))) ok.be okq.be (by have:=ok.le;have:=okq.le;unfold maxLen;omega))
 have x0 : w.cell? ⟨p.ib,0,none⟩ = some (.map (some p.eb)):=h.ins.cell 0
 have x1 : w.cell? ⟨q.ib,0,none⟩ = some (.map (some q.eb)):=hq.ins.cell 0
 have HK1:=hid (fun W X (hb : Below w.heap.size w W) (hc : Chg (fun i=>i = p.eb) W X)=>(show X.cell? ⟨p.ib,0,none⟩ = some (.map (some p.eb)) ∧ X.cell? ⟨q.ib,0,none⟩ = some (.map (some q.eb)) from
  ⟨((h.ins.below hb).chg hc (fun e=>map_ne h.me h.ins e.symm)).cell 0,((hq.ins.below hb).chg hc (fun e=>map_ne h.me hq.ins e.symm)).cell 0⟩))
 have HH:=hid h
 have HQ:=hid hq
 have HOk:=hid ok
 have HOq:=hid okq
 have HOff:=hid hoff
 have HN:=hid hn
 have HW:=hid hw
 clear h hq ok okq hoff hn hw
 unfold JnPost at HI
 go_enter Try.func48,Try.ntmps48
 go_upto_region 0 with fail
 go_region_held3 (fun X=>X.cell? ⟨p.ib,0,none⟩ = some (.map (some p.eb)) ∧ X.cell? ⟨q.ib,0,none⟩ = some (.map (some q.eb)))
  (first|exact ⟨x0,x1⟩|go_keep)
  (first|(go_at_call 66;refine (HI.out _ BLw).mono ?_;rintro e w1 ⟨rfl,E',hm,hlk,hcb,hle,hc⟩;obtain ⟨y0,y1⟩:=HK1.out _ _ BLw hc;have HC1 : Hid (Chg (fun i=>i = p.eb) w w1):=(Chg.of_below (show Below w.heap.size w _ from BLw)).trans hc (fun i e=>.inl e);have HE:=hid (And.intro hm (And.intro hlk (And.intro hcb hle)));clear hm hlk hcb hle hc x0 x1;have x0:=y0;have x1:=y1;clear y0 y1))
 go_upto_region 1 with fail
 refine region_named fun W1 hW1=>?_
 subst hW1
 have h1:=HH.out.setE HC1.out HE.out.1
 have hq1:=HQ.out.chg HC1.out (fun k hk e=>HOff.out p.eb (.inr (.inl rfl)) (e ▸ hk))
 have HJ:=hid (fun W (hb : Below W1.heap.size W1 W)=>joinS_any (h1.mj.below hb) (hq1.mj.below hb) (fun e=>HOff.out p.jb (.inr (.inr (.inl rfl))) (.inr (.inr (.inl e)))) HOk.out.bj HOq.out.bj (by show p.J.length + q.J.length < maxLen;have:=HOk.out.lj;have:=HOq.out.lj;have:=HN.out;unfold maxLen;omega))
 clear x0 x1
 have x0 : W1.cell? ⟨p.ib,1,none⟩ = some (.map (some p.jb)):=h1.ins.cell 1
 have x1 : W1.cell? ⟨q.ib,1,none⟩ = some (.map (some q.jb)):=hq1.ins.cell 1
 have HK2:=hid (fun W X (hb : Below W1.heap.size W1 W) (hc : Chg (fun i=>i = p.jb) W X)=>(show X.cell? ⟨p.ib,1,none⟩ = some (.map (some p.jb)) ∧ X.cell? ⟨q.ib,1,none⟩ = some (.map (some q.jb)) from
  ⟨((h1.ins.below hb).chg hc (fun e=>map_ne h1.mj h1.ins e.symm)).cell 1,((hq1.ins.below hb).chg hc (fun e=>map_ne h1.mj hq1.ins e.symm)).cell 1⟩))
 have HI1:=hid h1
 have HQ1:=hid hq1
 clear h1 hq1
 unfold JnPost at HJ
 dsimp only at HJ
 go_region_held3 (fun X=>X.cell? ⟨p.ib,1,none⟩ = some (.map (some p.jb)) ∧ X.cell? ⟨q.ib,1,none⟩ = some (.map (some q.jb)))
  (first|exact ⟨x0,x1⟩|go_keep)
  (first|(go_at_call 67;refine (HJ.out _ (by repeat' first|with_reducible exact Below.refl _ _|with_reducible assumption|with_reducible refine belows_drewN ?_ _|with_reducible refine Below.drew ?_|with_reducible refine Below.alloc ?_ ?_ _|omega|(simp;done)|(simp;omega))).mono ?_;rintro e w3 ⟨rfl,J',hm,hlk,hcb,hle,hc⟩;obtain ⟨y0,y1⟩:=HK2.out _ _ (by repeat' first|with_reducible exact Below.refl _ _|with_reducible assumption|with_reducible refine belows_drewN ?_ _|with_reducible refine Below.drew ?_|with_reducible refine Below.alloc ?_ ?_ _|omega|(simp;done)|(simp;omega)) hc;have HC2 : Hid (Chg (fun i=>i = p.jb) W1 w3):=(Chg.of_below (show Below W1.heap.size W1 _ from (by repeat' first|with_reducible exact Below.refl _ _|with_reducible assumption|with_reducible refine belows_drewN ?_ _|with_reducible refine Below.drew ?_|with_reducible refine Below.alloc ?_ ?_ _|omega|(simp;done)|(simp;omega)))).trans hc (fun i e=>.inl e);have HE2:=hid (And.intro hm (And.intro hlk (And.intro hcb hle)));clear hm hlk hcb hle hc x0 x1;have x0:=y0;have x1:=y1;clear y0 y1))
 go_upto_region 2 with fail
 refine region_named fun W3 hW3=>?_
 subst hW3
 have HPm : Hid (IP W3 base { p with E:=E',J:=J' }):=HI1.out.setJ HC2.out HE2.out.1
 have HQ3:=hid (HQ1.out.chg HC2.out (fun k hk e=>HOff.out p.jb (.inr (.inr (.inl rfl))) (e ▸ hk)))
 have HC3 : Hid (Chg p.foot w W3):=(HC1.out.mono (fun i _ e=>.inr (.inl e))).trans (HC2.out.mono (T:=p.foot) (fun i _ e=>.inr (.inr (.inl e)))) (fun i e=>.inl e)
 have q2 : W3.cell? ⟨q.ib,2,none⟩ = some (.map (some q.cb)):=HQ3.out.ins.cell 2
 have qz:=HQ3.out.ins.sz
 clear x0 x1 HK1 HK2 HI HJ
 go_wp2_with (at_range;refine wpList_range_L _ rfl _ 75 rfl 85 ts uC rfl HQ3.out.mc ?_;intro w0 hrg0 hb0 hs0)
 have HR0:=hid hrg0
 have HB0:=hid hb0
 have HS0 : Hid (W3.heap.size < w0.heap.size):=by show _ < _;omega
 clear hrg0 hb0 hs0
 go_frame
 go_loopw [] (fun wr=>∃ (done todo C' : List (Site × Cl)),Hid (RangeL TS vC wr q.cb W3.heap.size q.C done todo ∧ QJ W3 wr base { p with E:=E',J:=J' } q done C' ∧ W3.heap.size < wr.heap.size)) (fun wr=>wr.rangeLeft q.cb W3.heap.size)
 case atStart=>exact ⟨[],q.C,p.C,HR0.out,⟨HPm.out.below HB0.out,fun y=>(if_neg (by simp [keys])).symm,HOk.out.bc,Nat.le_refl _,Chg.of_below HB0.out,fun i e=>.inl e⟩,HS0.out⟩
 case round =>
  clear HR0 HB0 HS0 q2 qz
  obtain ⟨done,todo,C',HJ⟩:=hrel
  go_wp2_with (at_next;refine wpList_next_M _ rfl _ rfl ts rfl HJ.out.1 ?_ ?_)
  ·intro hp
   have HP:=hid hp
   clear hp
   go_wp2
   go_end0
   have hp:=HP.out
   refine ⟨rfl,{ p with E:=E',J:=J',C:=C' },rfl,HJ.out.2.1.ip,⟨HE.out.2.2.1,HE2.out.2.2.1,HJ.out.2.1.bc,?_,?_,?_⟩,?_,HC3.out.trans HJ.out.2.1.chg (fun i e=>.inl e),fun i hi=>(HJ.out.2.1.fr i hi).imp id (fun e=>by have:=HC3.out.size;omega)⟩
   ·show E'.length ≤ n + m
    have:=HE.out.2.2.2
    have:=HOk.out.le
    have:=HOq.out.le
    omega
   ·show J'.length ≤ n + m
    have h5 : J'.length ≤ p.J.length + q.J.length:=HE2.out.2.2.2
    have:=HOk.out.lj
    have:=HOq.out.lj
    omega
   ·show C'.length ≤ n + m
    have h5 : C'.length ≤ p.C.length + done.length:=HJ.out.2.1.len
    have:=HOk.out.lc
    have:=HOq.out.lc
    have:=hp.length_eq
    omega
   ·have e1 : Pf.look 0 E' = fun f=>Pf.more (Pf.look 0 p.E f) (Pf.look 0 q.E f):=funext HE.out.2.1
    have e2 : Pf.look 0 J' = fun x=>Pf.more (Pf.look 0 p.J x) (Pf.look 0 q.J x):=funext HE2.out.2.1
    have e3 : (fun y=>(Pf.look cl0 C' y).2) = fun y=>Pf.merge (p.st.ca y) (q.st.ca y):=funext fun y=>by
     refine (HJ.out.2.1.ca y).trans ?_
     by_cases hy : y ∈ keys done
     ·rw [if_pos hy]
      rfl
     ·rw [if_neg hy]
      have : q.st.ca y = ([],false):=by
       show (Pf.look cl0 q.C y).2 = _
       rw [Pf.look_not (fun e=>hy (((hp.map (·.1)).mem_iff).1 e))]
       rfl
      rw [this,merge_none]
      rfl
    show (⟨_,_,_⟩ : Pf.St) = ⟨_,_,_⟩
    congr 1
  ·rintro ⟨⟨x1,x2⟩,mo,l2,m2⟩ todo' w1 hx hrg1 hlt hg1 hs1 hen
   have HRg:=hid hrg1
   have HLt:=hid hlt
   have HXq:=hid hx
   have hch : Chg (fun i=>i = W3.heap.size) wr w1:=Chg.of_grown hg1 (fun k e=>(Option.some.inj e).symm)
   have HCh:=hid hch
   obtain ⟨wa,hwa⟩ : ∃ x,x = w1.alloc (.cells #[.int .i64 x1,.int .i64 x2] 29):=⟨_,rfl⟩
   obtain ⟨wb,hwb⟩ : ∃ x,x = wa.alloc (.cells #[.map mo,.bool m2] 85):=⟨_,rfl⟩
   have hba : Below w1.heap.size w1 wa:=by rw [hwa];exact (Below.refl _ _).alloc (Nat.le_refl _) _
   have hbb : Below wa.heap.size wa wb:=by rw [hwb];exact (Below.refl _ _).alloc (Nat.le_refl _) _
   have hb1:=belows hba hbb hba.size
   have hQr:=(HQ3.out.chg HJ.out.2.1.chg (fun k hk e=>HOff.out k e hk)).chg hch (fun k hk e=>by have:=HQ3.out.lt k hk;omega)
   have hJ1 : QJ W3 w1 base { p with E:=E',J:=J' } q done C':=⟨HJ.out.2.1.ip.chg hch (fun k hk e=>(HJ.out.2.1.fr k hk).elim (fun e2=>by have:=HPm.out.lt k e2;omega) (fun e2=>by omega)),HJ.out.2.1.ca,HJ.out.2.1.bc,HJ.out.2.1.len,HJ.out.2.1.chg.trans hch (fun i e=>.inr (by omega)),HJ.out.2.1.fr⟩
   have hnd : ((x1,x2) : Site) ∉ keys done:=by
    obtain ⟨D,left,cnt,-,-,hp,-⟩:=hrg1
    have h5:=((hp.map (fun x : Site × Cl=>x.1)).nodup_iff).1 HQ3.out.mc.nd
    rw [List.map_append,List.map_append,List.append_assoc] at h5
    intro hk
    exact (List.nodup_append.1 h5).2.2 _ hk _ (by simp) rfl
   have hc2 : ((mo,l2,m2) : Cl).2 = q.st.ca (x1,x2):=by
    show _ = (Pf.look cl0 q.C (x1,x2)).2
    rw [Pf.look_mem (d:=cl0) HQ3.out.mc.nd hx]
   have hbq:=HOq.out.bc _ hx
   have hst : (IV.st { p with E:=E',J:=J',C:=C' }).ca (x1,x2) = p.st.ca (x1,x2):=by
    show (Pf.look cl0 C' (x1,x2)).2 = _
    rw [HJ.out.2.1.ca,if_neg hnd]
    rfl
   have okp:=cl_ok HOk.out HH.out.mc.nd (x1,x2)
   have hcl : ClR wb (mo,l2,m2):=by
    obtain ⟨b,e,h5,-⟩:=hQr.ml _ hx
    exact .inl ⟨b,e,(h5.below hb1)⟩
   have hk8 : ∀ y ∈ l2,I8 y.1:=by
    obtain ⟨b,e,h5,-⟩:=hQr.ml _ hx
    exact fun y hy=>h5.ok _ (Pf.mem_keys.2 ⟨y,hy,rfl⟩)
   have hzz:=HJ.out.2.2
   have hz1 : W3.heap.size < w1.heap.size:=by have:=hch.size;omega
   have hlen : C'.length + 1 < maxLen:=by
    have h5 : C'.length ≤ p.C.length + done.length:=HJ.out.2.1.len
    have h6 : done.length ≤ q.C.length:=by obtain ⟨D,left,cnt,-,-,hp,-⟩:=hrg1;have:=hp.length_eq;simp only [List.length_append] at this;omega
    have:=HOk.out.lc
    have:=HOq.out.lc
    have:=HN.out
    unfold maxLen
    omega
   have HA:=hid (joinSite_any (hJ1.ip.below hb1) (Nat.le_trans HW.out (Nat.le_trans HC3.out.size (Nat.le_trans (Nat.le_of_lt hz1) hb1.size))) (s:=(x1,x2)) (HQ3.out.mc.ok _ (Pf.mem_keys.2 ⟨_,hx,rfl⟩)) hcl (by rw [hst];exact okp.1) hbq.1 hbq.2.1 hbq.2.2 hk8 hlen)
   have HStep : Hid (∀ e w4,JoinS wb base { p with E:=E',J:=J',C:=C' } (x1,x2) (l2,m2) e w4 → e = .returned (.tuple #[]) ∧ ∃ C2,Hid (RangeL TS vC w4 q.cb W3.heap.size q.C (done ++ [((x1,x2),mo,l2,m2)]) todo' ∧ QJ W3 w4 base { p with E:=E',J:=J' } q (done ++ [((x1,x2),mo,l2,m2)]) C2 ∧ W3.heap.size < w4.heap.size) ∧ w4.rangeLeft q.cb W3.heap.size = w1.rangeLeft q.cb W3.heap.size):=fun e w4 hj=>by
    obtain ⟨e1,C2,h6,h7⟩:=hJ1.step hz1 hb1 hnd hc2 okp.1 okp.2 hbq hj
    have noff : ∀ i,i ≤ W3.heap.size → ¬ p.foot i → ¬ IV.foot { p with E:=E',J:=J',C:=C' } i:=fun i hi hn e=>(HJ.out.2.1.fr i e).elim hn (fun e=>by omega)
    have ncb : ¬ IV.foot { p with E:=E',J:=J',C:=C' } q.cb:=noff _ (Nat.le_of_lt HQ3.out.mc.lt) (fun e=>HOff.out _ e (foot_cb q))
    have nr : ¬ IV.foot { p with E:=E',J:=J',C:=C' } W3.heap.size:=noff _ (Nat.le_refl _) (fun e=>by have:=HPm.out.lt _ e;omega)
    have h8 : Chg (IV.foot { p with E:=E',J:=J',C:=C' }) w1 w4:=(Chg.of_below hb1).trans h7 (fun i e=>.inl e)
    exact ⟨e1,C2,⟨HRg.out.chg h8 ncb nr,h6,by have:=h8.size;omega⟩,rangeLeft_keep (h8.block _ HRg.out.lts.1 ncb) (h8.block _ HRg.out.lts.2 nr)⟩
   unfold TS vC at hen
   unfold sV vC at HA
   dsimp only at hen HA
   clear hs1 hlt hrg1 hg1 hch hx hba hbb hb1 hQr hJ1 hnd hc2 hbq hst okp hcl hk8 hzz hz1 hlen
   subst hwb
   subst hwa
   unfold TS vC
   dsimp only
   go_wp2_with (go_at_call 68;refine HA.out.mono ?_;intro e w4 hj;obtain ⟨rfl,C2,hq4,hl4⟩:=HStep.out e w4 hj;have HL4:=hid hl4;clear hj hl4)
   go_roundw
   case rel=>exact ⟨_,todo',C2,hq4⟩
   case measure=>rw [HL4.out];exact HLt.out
end Go.Proofs.Ytfphiomhlhpphaa
namespace Go.Proofs.Ytfphiomhlhpphaa
open Go Go.RowKit
open Pf (Site Sn ix addk alt keys)
set_option maxRecDepth 100000
set_option maxHeartbeats 2000000
structure Eq2 {κ β : Type} [DecidableEq κ] (d : β) (R : β → β → Prop) (L L2 : List (κ × β)) : Prop where
 len : L.length = L2.length
 at_ : ∀ x ∈ L,x.1 ∈ keys L2 ∧ R x.2 (Pf.look d L2 x.1)
theorem Eq2.of {κ β : Type} [DecidableEq κ] {d : β} {R : β → β → Prop} {L L2 : List (κ × β)} (h1 : (keys L).Nodup) (h2 : (keys L2).Nodup) (hk : ∀ k,k ∈ keys L ↔ k ∈ keys L2) (hr : ∀ k ∈ keys L,R (Pf.look d L k) (Pf.look d L2 k)) : Eq2 d R L L2:=by
 refine ⟨?_,fun x hx=>?_⟩
 ·have hp : (keys L).Perm (keys L2):=(List.perm_ext_iff_of_nodup h1 h2).2 hk
  have:=hp.length_eq
  unfold keys at this
  rwa [List.length_map,List.length_map] at this
 ·have hm : x.1 ∈ keys L:=Pf.mem_keys.2 ⟨x,hx,rfl⟩
  refine ⟨(hk _).1 hm,?_⟩
  have:=hr _ hm
  rwa [Pf.look_mem h1 hx] at this
theorem Eq2.counts {κ : Type} [DecidableEq κ] {L L2 : List (κ × Int)} (h1 : (keys L).Nodup) (h2 : (keys L2).Nodup) (c1 : ∀ x ∈ L,1 ≤ x.2) (c2 : ∀ x ∈ L2,1 ≤ x.2) (he : ∀ k,Pf.look 0 L k = Pf.look 0 L2 k) : Eq2 0 (·= ·) L L2:=by
 have key : ∀ {A B : List (κ × Int)},(keys A).Nodup → (keys B).Nodup → (∀ x ∈ A,1 ≤ x.2) → (∀ k,Pf.look 0 A k = Pf.look 0 B k) → ∀ k,k ∈ keys A → k ∈ keys B:=by
  intro A B hA hB cA he k hk
  by_cases hb : k ∈ keys B
  ·exact hb
  ·have h3:=cA _ (Pf.mem_look_iff (d:=(0 : Int)) hA hk)
   rw [he,Pf.look_not hb] at h3
   exact absurd h3 (show ¬ (1 : Int) ≤ 0 by decide)
 exact Eq2.of h1 h2 (fun k=>⟨key h1 h2 c1 he k,key h2 h1 c2 (fun k=>(he k).symm) k⟩) (fun k _=>he k)
def EqPost (w : World) (e : Ending) (w' : World) : Prop:=e = .returned (.bool true) ∧ Below w.heap.size w w'
theorem mequalI_any {w : World} {b b2 : Nat} {L L2 : List (Int × Int)} (h : MapL TI vI w b L) (h2 : MapL TI vI w b2 L2) (he : Eq2 0 (·= ·) L L2) :
  Calls Try.prog 69 #[.map (some b),.map (some b2)] w (EqPost w):=by
 have HM2:=hid h2
 have HE:=hid he
 have ln1:=h.len uE
 have ln2:=h2.len uE
 rw [← he.len] at ln2
 have HM:=hid h
 obtain ⟨n,hn⟩ : ∃ n,(L.length : Int) = n:=⟨_,rfl⟩
 rw [hn] at ln1 ln2
 clear h h2 he hn
 go_enter Try.func69,Try.ntmps69
 go_wp2_with (at_range;refine wpList_range_L _ rfl _ 73 rfl 2 ti uE rfl HM.out ?_;intro w0 hrg0 hb0 hs0)
 have HR0:=hid hrg0
 have HB0:=hid hb0
 clear hrg0 hb0 hs0 ln1 ln2
 go_frame
 go_loopw [] (fun wr=>∃ done todo : List (Int × Int),Hid (RangeL TI vI wr b w.heap.size L done todo ∧ Below w.heap.size w wr)) (fun wr=>wr.rangeLeft b w.heap.size)
 case atStart=>exact ⟨[],L,HR0.out,HB0.out⟩
 case round =>
  clear HR0 HB0
  obtain ⟨done,todo,HI⟩:=hrel
  go_wp2_with (at_next;refine wpList_next_L _ rfl _ rfl ti rfl HI.out.1 ?_ ?_)
  ·intro hp
   clear hp
   go_wp2
   go_ret
   exact ⟨rfl,HI.out.2⟩
  ·intro k n2 todo' w1 hx hrg1 hlt hg1 hs1 hen
   have HRg:=hid hrg1
   have HLt:=hid hlt
   have hch : Chg (fun i=>i = w.heap.size) wr w1:=Chg.of_grown hg1 (fun k e=>(Option.some.inj e).symm)
   have HBw : Hid (Below w.heap.size w w1):=HI.out.2.trans (hch.to_below (B:=w.heap.size) (fun k e=>by omega) HI.out.2.size)
   have hm2 : MapL TI vI w1 b2 L2:=HM2.out.below (HBw.out)
   have lo:=hm2.look_ok ti uE 0 (zI _) (k:=k) (HM.out.ok _ (Pf.mem_keys.2 ⟨_,hx,rfl⟩))
   rw [← (show n2 = Pf.look 0 L2 k from (HE.out.at_ _ hx).2)] at lo
   have hkm : k ∈ keys L2:=(HE.out.at_ _ hx).1
   simp only [hkm,decide_true] at lo
   clear hkm
   have hz : (vI n2 = vI n2):=rfl
   unfold TI vI at hen lo
   dsimp only at hen lo
   clear hs1 hlt hrg1 hg1 hx HI hz hm2
   go_wp2
   have HB2 : Hid (Below w.heap.size w (w1)):=HBw.out
   have HR2 : Hid (RangeL TI vI (w1) b w.heap.size L (done ++ [(k,n2)]) todo'):=HRg.out
   have HL2 : Hid ((w1).rangeLeft b w.heap.size = w1.rangeLeft b w.heap.size):=rfl
   go_roundw
   case rel=>exact ⟨_,todo',HR2.out,HB2.out⟩
   case measure=>rw [HL2.out];exact HLt.out
theorem mequalS_any {w : World} {b b2 : Nat} {L L2 : List (Site × Int)} (h : MapL TS vI w b L) (h2 : MapL TS vI w b2 L2) (he : Eq2 0 (·= ·) L L2) :
  Calls Try.prog 70 #[.map (some b),.map (some b2)] w (EqPost w):=by
 have HM2:=hid h2
 have HE:=hid he
 have ln1:=h.len uJ
 have ln2:=h2.len uJ
 rw [← he.len] at ln2
 have HM:=hid h
 obtain ⟨n,hn⟩ : ∃ n,(L.length : Int) = n:=⟨_,rfl⟩
 rw [hn] at ln1 ln2
 clear h h2 he hn
 go_enter Try.func70,Try.ntmps70
 go_wp2_with (at_range;refine wpList_range_L _ rfl _ 74 rfl 2 ts uJ rfl HM.out ?_;intro w0 hrg0 hb0 hs0)
 have HR0:=hid hrg0
 have HB0:=hid hb0
 clear hrg0 hb0 hs0 ln1 ln2
 go_frame
 go_loopw [] (fun wr=>∃ done todo : List (Site × Int),Hid (RangeL TS vI wr b w.heap.size L done todo ∧ Below w.heap.size w wr)) (fun wr=>wr.rangeLeft b w.heap.size)
 case atStart=>exact ⟨[],L,HR0.out,HB0.out⟩
 case round =>
  clear HR0 HB0
  obtain ⟨done,todo,HI⟩:=hrel
  go_wp2_with (at_next;refine wpList_next_L _ rfl _ rfl ts rfl HI.out.1 ?_ ?_)
  ·intro hp
   clear hp
   go_wp2
   go_ret
   exact ⟨rfl,HI.out.2⟩
  ·intro x1 x2 n2 todo' w1 hx hrg1 hlt hg1 hs1 hen
   have HRg:=hid hrg1
   have HLt:=hid hlt
   have hch : Chg (fun i=>i = w.heap.size) wr w1:=Chg.of_grown hg1 (fun k e=>(Option.some.inj e).symm)
   have HBw : Hid (Below w.heap.size w w1):=HI.out.2.trans (hch.to_below (B:=w.heap.size) (fun k e=>by omega) HI.out.2.size)
   have hm2 : MapL TS vI (w1.alloc (.cells #[.int .i64 x1,.int .i64 x2] 29)) b2 L2:=HM2.out.below (HBw.out.alloc HBw.out.size _)
   have lo:=hm2.look_ok ts uJ 0 (zI _) (k:=((x1,x2) : Site)) (HM.out.ok _ (Pf.mem_keys.2 ⟨_,hx,rfl⟩))
   rw [← (show n2 = Pf.look 0 L2 ((x1,x2) : Site) from (HE.out.at_ _ hx).2)] at lo
   have hkm : ((x1,x2) : Site) ∈ keys L2:=(HE.out.at_ _ hx).1
   simp only [hkm,decide_true] at lo
   clear hkm
   have hz : (vI n2 = vI n2):=rfl
   unfold TS vI at hen lo
   dsimp only at hen lo
   clear hs1 hlt hrg1 hg1 hx HI hz hm2
   go_wp2
   have HB2 : Hid (Below w.heap.size w ((w1.alloc (.cells #[.int .i64 x1,.int .i64 x2] 29)))):=HBw.out.alloc HBw.out.size _
   have HR2 : Hid (RangeL TS vI ((w1.alloc (.cells #[.int .i64 x1,.int .i64 x2] 29))) b w.heap.size L (done ++ [(((x1,x2) : Site),n2)]) todo'):=HRg.out.chg (S:=fun _=>False) (Chg.of_below ((Below.refl _ _).alloc (Nat.le_refl _) _)) id id
   have HL2 : Hid (((w1.alloc (.cells #[.int .i64 x1,.int .i64 x2] 29))).rangeLeft b w.heap.size = w1.rangeLeft b w.heap.size):=rangeLeft_keep (((Below.refl _ _).alloc (Nat.le_refl _) _ : Below w1.heap.size w1 _).block _ HRg.out.lts.1) (((Below.refl _ _).alloc (Nat.le_refl _) _ : Below w1.heap.size w1 _).block _ HRg.out.lts.2)
   go_roundw
   case rel=>exact ⟨_,todo',HR2.out,HB2.out⟩
   case measure=>rw [HL2.out];exact HLt.out
end Go.Proofs.Ytfphiomhlhpphaa
