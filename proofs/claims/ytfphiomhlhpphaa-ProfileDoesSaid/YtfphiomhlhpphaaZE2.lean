/- Own texts for the claim, part 2. -/
import Derived.Test.YtfphiomhlhpphaaZE1
import Derived.Shelf.SlMaps.Clone
import Derived.Lib.QuietBelow
import Derived.Deep.RegionHeld3
import Derived.Shelf.SlSortCmp.WholeK
import Derived.Shelf.SlSortCmp.NoneTotal
import Derived.Laws.IdiomRangeMap
set_option maxRecDepth 100000
namespace Go.Proofs.Ytfphiomhlhpphaa
open Go Go.RowKit
open Pf (Site Sn ix addk alt keys)
set_option maxRecDepth 100000
set_option maxHeartbeats 2000000
theorem region_named {P : Program} {id : Nat} {ops : Array Oper} {b : Bool} {Q : Exit → Act → World → Prop} {a : Act} {w : World} (h : ∀ W,W = w → (Code.region id ops b).wp P Q a W) : (Code.region id ops b).wp P Q a w:=h w rfl
theorem alt_is {κ β : Type} [DecidableEq κ] {d : β} {l : List (κ × β)} (h : (keys l).Nodup) {s : κ} {v : β} {x : κ × β} (hx : x ∈ alt d l s (fun _=>v)) : (x.1 = s ∧ x.2 = v) ∨ (x.1 ≠ s ∧ x ∈ l):=by
 by_cases e : x.1 = s
 ·have hl:=Pf.look_mem (d:=d) (Pf.nodup_alt h s (fun _=>v)) hx
  rw [Pf.look_alt,if_pos e] at hl
  exact .inl ⟨e,hl.symm⟩
 ·rcases Pf.mem_alt hx with h1|⟨h1,-⟩
  ·exact .inr ⟨e,h1⟩
  ·exact absurd h1 e
theorem IP.called {w w' : World} {base b : Nat} {p : IV} {s : Site} {c' : List Sn × Bool} (h : IP w base p) (hw : base ≤ w.heap.size) (hc : Chg (fun i=>i = p.cb ∨ i = b) w w') (hb : (Pf.look cl0 p.C s).1 = some b ∨ ((Pf.look cl0 p.C s).1 = none ∧ w.heap.size ≤ b))
  (hm : MapL TS vC w' p.cb (alt cl0 p.C s (fun _=>(some b,c')))) (hb2 : MapL TI vI w' b c'.1) : IP w' base { p with C:=alt cl0 p.C s (fun _=>(some b,c')) }:=by
 have old : (Pf.look cl0 p.C s).1 = some b → ∃ x ∈ p.C,x.1 = s ∧ x.2.1 = some b:=fun e=>by
  by_cases hk : s ∈ keys p.C
  ·exact ⟨_,Pf.mem_look_iff (d:=cl0) h.mc.nd hk,rfl,e⟩
  ·rw [Pf.look_not hk] at e
   cases e
 have hne : b ≠ p.eb ∧ b ≠ p.jb ∧ b ≠ p.cb ∧ b ≠ p.ib:=by
  rcases hb with e|⟨-,e⟩
  ·obtain ⟨x,hx,-,e2⟩:=old e
   obtain ⟨b',e3,h1,h2⟩:=h.ml x hx
   rw [e2] at e3
   obtain rfl:=Option.some.inj e3
   exact ⟨h2.1,h2.2.1,h2.2.2,map_ne h1 h.ins⟩
  ·have h1:=h.me.lt
   have h2:=h.mj.lt
   have h3:=h.mc.lt
   have h4:=h.ins.sz
   exact ⟨by omega,by omega,by omega,by omega⟩
 have hother : ∀ x ∈ p.C,x.1 ≠ s → x.2.1 ≠ some b:=fun x hx hxs e=>by
  rcases hb with e1|⟨-,e1⟩
  ·obtain ⟨y,hy,rfl,e2⟩:=old e1
   exact hxs (h.ap x hx y hy (e.trans e2.symm))
  ·have:=h.lt b (.inr (.inr (.inr (.inr ⟨x,hx,e⟩))))
   omega
 refine ⟨h.ins.chg hc ?_,h.me.chg hc ?_,h.mj.chg hc ?_,hm,fun x hx=>?_,fun x hx y hy e=>?_,h.ej,h.ec,h.jc,?_⟩
 ·rintro (e|e)
  ·exact map_ne h.mc h.ins e.symm
  ·exact hne.2.2.2 e.symm
 ·rintro (e|e)
  ·exact h.ec e
  ·exact hne.1 e.symm
 ·rintro (e|e)
  ·exact h.jc e
  ·exact hne.2.1 e.symm
 ·rcases alt_is h.mc.nd hx with ⟨-,e⟩|⟨e,hx⟩
  ·rw [e]
   exact ⟨b,rfl,hb2,hne.1,hne.2.1,hne.2.2.1⟩
  ·obtain ⟨b',e3,h1,h2⟩:=h.ml x hx
   refine ⟨b',e3,h1.chg hc ?_,h2⟩
   rintro (e4|e4)
   ·exact h2.2.2 e4
   ·exact hother x hx e (by rw [e3,e4])
 ·rcases alt_is h.mc.nd hx with ⟨e1,e2⟩|⟨e1,hx⟩
  ·rcases alt_is h.mc.nd hy with ⟨e3,e4⟩|⟨e3,hy⟩
   ·rw [e1,e3]
   ·rw [e2] at e
    exact absurd e.symm (hother y hy e3)
  ·rcases alt_is h.mc.nd hy with ⟨e3,e4⟩|⟨e3,hy⟩
   ·rw [e4] at e
    exact absurd e (hother x hx e1)
   ·exact h.ap x hx y hy e
 ·have hbb : base ≤ b:=by
   rcases hb with e|⟨-,e⟩
   ·obtain ⟨x,hx,-,e2⟩:=old e
    exact h.low b (.inr (.inr (.inr (.inr ⟨x,hx,e2⟩))))
   ·omega
  rintro k (e|e|e|e|⟨x,hx,e⟩)
  ·exact h.low k (.inl e)
  ·exact h.low k (.inr (.inl e))
  ·exact h.low k (.inr (.inr (.inl e)))
  ·exact h.low k (.inr (.inr (.inr (.inl e))))
  ·rcases alt_is h.mc.nd hx with ⟨e1,e2⟩|⟨e1,hx⟩
   ·rw [e2] at e
    rw [← Option.some.inj e]
    exact hbb
   ·exact h.low k (.inr (.inr (.inr (.inr ⟨x,hx,e⟩))))
theorem Pf.OkC.bdlook {c : List Sn × Bool} (h : Pf.OkC c) (k : Int) : Pf.Bd (Pf.look 0 c.1 k):=by
 by_cases hk : k ∈ keys c.1
 ·exact h.bd _ (Pf.mem_look_iff (d:=(0 : Int)) h.nd hk)
 ·rw [Pf.look_not hk]
  exact Pf.bd0
def CallI (w : World) (base : Nat) (p : IV) (s : Site) (k n : Int) (e : Ending) (w' : World) : Prop :=
 e = .returned (.tuple #[]) ∧ ∃ b,IP w' base { p with C:=alt cl0 p.C s (fun c=>(some b,Pf.cnt c.2 k n)) } ∧ Chg (fun i=>i = p.cb ∨ (Pf.look cl0 p.C s).1 = some i) w w' ∧ ((Pf.look cl0 p.C s).1 = some b ∨ ((Pf.look cl0 p.C s).1 = none ∧ w.heap.size ≤ b))
theorem CallI.mk {w W w' : World} {base b : Nat} {p : IV} {s : Site} {k n : Int} {c : Cl} (h : IP w base p) (hw : base ≤ w.heap.size) (hcc : Pf.look cl0 p.C s = c) (hb : c.1 = some b ∨ (c.1 = none ∧ w.heap.size ≤ b)) (hc : Chg (fun i=>i = b) w W) (hg : W.grownBy w' (some p.cb))
  (hm : MapL TS vC w' p.cb (alt cl0 p.C s (fun _=>(some b,Pf.cnt c.2 k n)))) (hb2 : MapL TI vI W b (Pf.cnt c.2 k n).1) (hne : b ≠ p.cb) : CallI w base p s k n (.returned (.tuple #[])) w':=by
 have hC : Chg (fun i=>i = p.cb ∨ i = b) w w':=(hc.mono (fun i _ e=>.inr e)).grown hg (fun j e=>.inl (.inl (Option.some.inj e).symm))
 have hm2:=hb2.chg (Chg.of_grown (S:=fun i=>i = p.cb) hg (fun j e=>(Option.some.inj e).symm)) hne
 refine ⟨rfl,b,?_,⟨hC.os,hC.tape,hC.output,hC.size,fun i hi hn=>hC.block i hi ?_⟩,by rw [hcc];exact hb⟩
 ·rw [Pf.alt_const,hcc]
  exact h.called hw hC (by rw [hcc];exact hb) hm hm2
 ·rintro (e|e)
  ·exact hn (.inl e)
  ·rcases hb with e2|⟨-,e2⟩
   ·exact hn (.inr (by rw [hcc,e2,e]))
   ·omega
theorem call_any {w : World} {base : Nat} {p : IV} (h : IP w base p) (hw : base ≤ w.heap.size) {s : Site} (hs : TS.ok s) {k n : Int} (hk : I8 k) (hn : Pf.Bd n) (hok : Pf.OkC (Pf.look cl0 p.C s).2) (hl : p.C.length < maxLen) :
  Calls Try.prog 43 #[.pointer (some ⟨p.ib,0,none⟩),sV s,.int .i64 k,.int .i64 n] w (CallI w base p s k n):=by
 obtain ⟨w1,hw1⟩ : ∃ w1,w1 = w.alloc (.cells #[.int .i64 s.1,.int .i64 s.2] 29):=⟨_,rfl⟩
 have hb1 : Below w.heap.size w w1:=by rw [hw1];exact (Below.refl _ _).alloc (Nat.le_refl _) _
 have bx : BX w1 w.heap.size #[.int .i64 s.1,.int .i64 s.2] 29:=by rw [hw1];exact BX.new w _ _
 have b0 : w1.cell? ⟨w.heap.size,0,none⟩ = some (.int .i64 s.1):=bx.cell 0
 have b1 : w1.cell? ⟨w.heap.size,1,none⟩ = some (.int .i64 s.2):=bx.cell 1
 have h1:=h.below hb1
 have i2 : w1.cell? ⟨p.ib,2,none⟩ = some (.map (some p.cb)):=h1.ins.cell 2
 have z1:=h1.ins.sz
 have z2:=bx.sz
 have lk1:=(h1.mc.below (w':=w1.drew) (Below.drew (Below.refl _ _))).look ts uC cl0 (zC w1.drew) hs
 have lk2:=fun o=>(h1.mc.below (w':=(w1.alloc o).drew) (Below.drew ((Below.refl _ _).alloc (Nat.le_refl _) _))).look ts uC cl0 (zC (w1.alloc o).drew) hs
 have HW1:=hid hw1
 unfold TS vC at lk1 lk2
 dsimp only at lk1 lk2
 unfold sV
 obtain ⟨⟨mo,l,m⟩,hc⟩ : ∃ c,Pf.look cl0 p.C s = c:=⟨_,rfl⟩
 have HC:=hid hc
 have HCR:=h1.cl s
 rw [hc] at lk1 lk2 hok HCR
 dsimp only at lk1 lk2 hok
 have HCR:=hid HCR
 have HOK:=hid hok
 have HBX:=hid bx
 have HH:=hid h
 have HB1:=hid hb1
 have HN:=hid hn
 have HWb:=hid hw
 have HL:=hid hl
 have HSK:=hid (And.intro hs hk)
 clear bx hw1 h h1 hc hok hb1 hn hw hl hs hk
 go_enter Try.func43,Try.ntmps43
 go_upto_region 1 with fail
 rw [← HW1.out]
 go_region
 go_upto_region 2 with fail
 refine region_named fun W2 hW2=>?_
 have HB2 : Hid (Below w1.heap.size w1 W2):=by show Below _ _ _;rw [hW2];exact Below.drew ((Below.refl _ _).alloc (Nat.le_refl _) _)
 have hy : BX W2 w1.heap.size #[.map mo,.bool m] 85:=by rw [hW2];exact BX.new w1 _ _
 have HY:=hid hy
 have y0 : W2.cell? ⟨w1.heap.size,0,none⟩ = some (.map mo):=hy.cell 0
 have y1 : W2.cell? ⟨w1.heap.size,1,none⟩ = some (.bool m):=hy.cell 1
 have f0 : W2.frozen? ⟨w1.heap.size,0,none⟩ = false:=hy.frozen 0
 have f1 : W2.frozen? ⟨w1.heap.size,1,none⟩ = false:=hy.frozen 1
 have hmk:=fun W=>run_makeMap (P:=Try.prog) 73 W
 have hq:=fun w=>run_eql_map_nil_sl (P:=Try.prog) w 73 _ _ mo uE
 clear hW2 hy lk1 lk2 i2 b0 b1
 have HS:=hid (And.intro z1 z2)
 have y2 : w1.heap.size < W2.heap.size:=HY.out.sz
 have HH1:=hid (HH.out.below HB1.out)
 rcases HCR.out with ⟨b,e,hm⟩|⟨e,e2⟩
 ·dsimp only at e hm
  subst e
  have HHm:=hid hm
  clear hm
  go_upto_region 4 with fail
  refine region_named fun W3 hW3=>?_
  subst hW3
  have HB3:=HB2
  have HY3:=HY
  have HM3:=hid (HHm.out.below HB2.out)
  have HNE : Hid (b ≠ p.cb ∧ b ≠ p.ib):=by
   obtain ⟨x,hx,e1,e2⟩ : ∃ x ∈ p.C,x.1 = s ∧ x.2.1 = some b:=by
    by_cases hk : s ∈ keys p.C
    ·exact ⟨_,Pf.mem_look_iff (d:=cl0) HH.out.mc.nd hk,rfl,by show (Pf.look cl0 p.C s).1 = _;rw [HC.out]⟩
    ·have:=HC.out
     rw [Pf.look_not hk] at this
     cases this
   obtain ⟨b',e3,h1,h2⟩:=HH.out.ml x hx
   rw [e2] at e3
   obtain rfl:=Option.some.inj e3
   exact ⟨h2.2.2,map_ne h1 HH.out.ins⟩
  clear HHm hmk hq HH1
  have y0 : W3.cell? ⟨w1.heap.size,0,none⟩ = some (.map (some b)):=HY3.out.cell 0
  have y1 : W3.cell? ⟨w1.heap.size,1,none⟩ = some (.bool m):=HY3.out.cell 1
  have f1 : W3.frozen? ⟨w1.heap.size,1,none⟩ = false:=HY3.out.frozen 1
  have z3 : w1.heap.size < W3.heap.size:=HY3.out.sz
  have lo:=HM3.out.look_ok ti uE 0 (zI W3) HSK.out.2
  have ln:=HM3.out.len uE
  have HAd:=hid (addI_any HM3.out HSK.out.2 (HOK.out.bdlook k) HN.out (by have:=HOK.out.ln;unfold maxLen;dsimp only at this;omega))
  unfold TI vI at lo
  dsimp only at lo
  obtain ⟨v,hv⟩ : ∃ v,Pf.look 0 l k = v:=⟨_,rfl⟩
  rw [hv] at lo
  obtain ⟨dk,hdk⟩ : ∃ d,decide (k ∈ keys l) = d:=⟨_,rfl⟩
  rw [hdk] at lo
  have HDK:=hid hdk
  clear hdk hv
  cases dk
  ·by_cases h4 : l.length < 4
   ·have h4' : decide ((l.length : Int) < 4) = true:=decide_eq_true (by omega)
    have HCN : Hid (Pf.cnt (l,m) k n = (alt 0 l k (fun y=>Pf.more y n),m)):=if_pos (.inr h4)
    clear h4
    go_upto_region 8 with (go_at_call 41;refine HAd.out.mono ?_;rintro e w4 ⟨rfl,hm4,hg4⟩;have HM4:=hid hm4;have HG4:=hid hg4;clear hm4 hg4)
    refine region_named fun W8 hW8=>?_
    subst hW8
    have HM8 : Hid (MapL TI vI W8 b (Pf.cnt (l,m) k n).1):=by show MapL _ _ _ _ _;rw [HCN.out];exact HM4.out
    have HC8 : Hid (Chg (fun i=>i = b ∨ i = w1.heap.size) W3 W8):=Chg.of_grown HG4.out (fun j e=>.inl (Option.some.inj e).symm)
    have HY8 : Hid (BX W8 w1.heap.size #[.map (some b),.bool (Pf.cnt (l,m) k n).2] 85):=by show BX _ _ _ _;rw [HCN.out];exact HY3.out.chg (Chg.of_grown (S:=fun i=>i = b) HG4.out (fun j e=>(Option.some.inj e).symm)) (fun e=>map_ne HM3.out HY3.out e.symm)
    clear HM4 HG4
    clear y0 y1 y2 f1 z3 lo ln HAd HDK HCN
    have hw8 : Chg (fun i=>i = b) w W8:=(((Chg.of_below HB1.out).trans (T:=fun i=>w1.heap.size ≤ i) ⟨HB3.out.os,HB3.out.tape,HB3.out.output,HB3.out.size,fun i hi hn=>HB3.out.block i (by omega)⟩ (fun i e=>.inr (Nat.le_trans HB1.out.size e))).trans HC8.out (fun i e=>e.imp id (fun e=>by have:=HB1.out.size;omega)))
    have HW8:=hid hw8
    have hib : ¬ p.ib = b:=fun e=>HNE.out.2 e.symm
    have h2:=HH.out.ins.chg hw8 hib
    have i2 : W8.cell? ⟨p.ib,2,none⟩ = some (.map (some p.cb)):=h2.cell 2
    have z8 : p.ib < W8.heap.size:=h2.sz
    have hbs:=(HBX.out.chg (T:=29) (S:=fun i=>w1.heap.size ≤ i) (w':=W3) ⟨HB3.out.os,HB3.out.tape,HB3.out.output,HB3.out.size,fun i hi hn=>HB3.out.block i (by omega)⟩ (by have:=HBX.out.sz;omega))
    have hbs8:=hbs.chg HC8.out (fun e=>e.elim (fun e=>map_ne HM3.out hbs e.symm) (fun e=>by have:=HBX.out.sz;omega))
    have b0 : W8.cell? ⟨w.heap.size,0,none⟩ = some (.int .i64 s.1):=hbs8.cell 0
    have b1 : W8.cell? ⟨w.heap.size,1,none⟩ = some (.int .i64 s.2):=hbs8.cell 1
    have hcb : ¬ p.cb = b:=fun e=>HNE.out.1 e.symm
    obtain ⟨w9,hput,hm9,hg9⟩:=((HH.out.mc.chg hw8 hcb).below (w':=W8.drew) (Below.drew (Below.refl _ _))).put ts uC cl0 HL.out HSK.out.1 (some b,Pf.cnt (l,m) k n)
    have HM9:=hid hm9
    have HG9 : Hid (W8.grownBy w9 (some p.cb)):=⟨hg9.os,hg9.tape,hg9.output,hg9.size,hg9.block⟩
    obtain ⟨m8,hm8⟩ : ∃ x,(Pf.cnt (l,m) k n).2 = x:=⟨_,rfl⟩
    rw [hm8] at HY8
    unfold TS vC at hput
    dsimp only at hput
    rw [hm8] at hput
    have y0 : W8.cell? ⟨w1.heap.size,0,none⟩ = some (.map (some b)):=HY8.out.cell 0
    have y1 : W8.cell? ⟨w1.heap.size,1,none⟩ = some (.bool m8):=HY8.out.cell 1
    clear hm9 hg9 hm8 hw8 h2 hbs hbs8 hib hcb
    go_region
    go_wp2
    go_end0
    exact CallI.mk HH.out HWb.out HC.out (by first|exact .inl rfl|exact .inr ⟨rfl,HDL.out⟩) HW8.out HG9.out HM9.out HM8.out HNE.out.1
   ·have h4' : decide ((l.length : Int) < 4) = false:=decide_eq_false (by omega)
    have HCN : Hid (Pf.cnt (l,m) k n = (l,true)):=if_neg (fun e=>e.elim (of_decide_eq_false HDK.out) h4)
    clear h4
    go_upto_region 8 with fail
    refine region_named fun W8 hW8=>?_
    have HC9 : Hid (Chg (fun i=>i = w1.heap.size) W3 W8):=by show Chg _ _ _;rw [hW8];exact (Chg.refl (fun i=>i = w1.heap.size) W3).set (p:=⟨w1.heap.size,1,none⟩) (.inl rfl) _
    have HM8 : Hid (MapL TI vI W8 b (Pf.cnt (l,m) k n).1):=by show MapL _ _ _ _ _;rw [HCN.out];exact HM3.out.chg HC9.out (map_ne HM3.out HY3.out)
    have HC8 : Hid (Chg (fun i=>i = b ∨ i = w1.heap.size) W3 W8):=HC9.out.mono (fun i _ e=>.inr e)
    have HY8 : Hid (BX W8 w1.heap.size #[.map (some b),.bool (Pf.cnt (l,m) k n).2] 85):=by show BX _ _ _ _;rw [HCN.out,hW8];exact box_set HY3.out 1 (.bool true)
    clear hW8 HC9
    clear y0 y1 y2 f1 z3 lo ln HAd HDK HCN
    have hw8 : Chg (fun i=>i = b) w W8:=(((Chg.of_below HB1.out).trans (T:=fun i=>w1.heap.size ≤ i) ⟨HB3.out.os,HB3.out.tape,HB3.out.output,HB3.out.size,fun i hi hn=>HB3.out.block i (by omega)⟩ (fun i e=>.inr (Nat.le_trans HB1.out.size e))).trans HC8.out (fun i e=>e.imp id (fun e=>by have:=HB1.out.size;omega)))
    have HW8:=hid hw8
    have hib : ¬ p.ib = b:=fun e=>HNE.out.2 e.symm
    have h2:=HH.out.ins.chg hw8 hib
    have i2 : W8.cell? ⟨p.ib,2,none⟩ = some (.map (some p.cb)):=h2.cell 2
    have z8 : p.ib < W8.heap.size:=h2.sz
    have hbs:=(HBX.out.chg (T:=29) (S:=fun i=>w1.heap.size ≤ i) (w':=W3) ⟨HB3.out.os,HB3.out.tape,HB3.out.output,HB3.out.size,fun i hi hn=>HB3.out.block i (by omega)⟩ (by have:=HBX.out.sz;omega))
    have hbs8:=hbs.chg HC8.out (fun e=>e.elim (fun e=>map_ne HM3.out hbs e.symm) (fun e=>by have:=HBX.out.sz;omega))
    have b0 : W8.cell? ⟨w.heap.size,0,none⟩ = some (.int .i64 s.1):=hbs8.cell 0
    have b1 : W8.cell? ⟨w.heap.size,1,none⟩ = some (.int .i64 s.2):=hbs8.cell 1
    have hcb : ¬ p.cb = b:=fun e=>HNE.out.1 e.symm
    obtain ⟨w9,hput,hm9,hg9⟩:=((HH.out.mc.chg hw8 hcb).below (w':=W8.drew) (Below.drew (Below.refl _ _))).put ts uC cl0 HL.out HSK.out.1 (some b,Pf.cnt (l,m) k n)
    have HM9:=hid hm9
    have HG9 : Hid (W8.grownBy w9 (some p.cb)):=⟨hg9.os,hg9.tape,hg9.output,hg9.size,hg9.block⟩
    obtain ⟨m8,hm8⟩ : ∃ x,(Pf.cnt (l,m) k n).2 = x:=⟨_,rfl⟩
    rw [hm8] at HY8
    unfold TS vC at hput
    dsimp only at hput
    rw [hm8] at hput
    have y0 : W8.cell? ⟨w1.heap.size,0,none⟩ = some (.map (some b)):=HY8.out.cell 0
    have y1 : W8.cell? ⟨w1.heap.size,1,none⟩ = some (.bool m8):=HY8.out.cell 1
    clear hm9 hg9 hm8 hw8 h2 hbs hbs8 hib hcb
    go_region
    go_wp2
    go_end0
    exact CallI.mk HH.out HWb.out HC.out (by first|exact .inl rfl|exact .inr ⟨rfl,HDL.out⟩) HW8.out HG9.out HM9.out HM8.out HNE.out.1
  ·have HCN : Hid (Pf.cnt (l,m) k n = (alt 0 l k (fun y=>Pf.more y n),m)):=if_pos (.inl (of_decide_eq_true HDK.out))
   go_upto_region 8 with (go_at_call 41;refine HAd.out.mono ?_;rintro e w4 ⟨rfl,hm4,hg4⟩;have HM4:=hid hm4;have HG4:=hid hg4;clear hm4 hg4)
   refine region_named fun W8 hW8=>?_
   subst hW8
   have HM8 : Hid (MapL TI vI W8 b (Pf.cnt (l,m) k n).1):=by show MapL _ _ _ _ _;rw [HCN.out];exact HM4.out
   have HC8 : Hid (Chg (fun i=>i = b ∨ i = w1.heap.size) W3 W8):=Chg.of_grown HG4.out (fun j e=>.inl (Option.some.inj e).symm)
   have HY8 : Hid (BX W8 w1.heap.size #[.map (some b),.bool (Pf.cnt (l,m) k n).2] 85):=by show BX _ _ _ _;rw [HCN.out];exact HY3.out.chg (Chg.of_grown (S:=fun i=>i = b) HG4.out (fun j e=>(Option.some.inj e).symm)) (fun e=>map_ne HM3.out HY3.out e.symm)
   clear HM4 HG4
   clear y0 y1 y2 f1 z3 lo ln HAd HDK HCN
   have hw8 : Chg (fun i=>i = b) w W8:=(((Chg.of_below HB1.out).trans (T:=fun i=>w1.heap.size ≤ i) ⟨HB3.out.os,HB3.out.tape,HB3.out.output,HB3.out.size,fun i hi hn=>HB3.out.block i (by omega)⟩ (fun i e=>.inr (Nat.le_trans HB1.out.size e))).trans HC8.out (fun i e=>e.imp id (fun e=>by have:=HB1.out.size;omega)))
   have HW8:=hid hw8
   have hib : ¬ p.ib = b:=fun e=>HNE.out.2 e.symm
   have h2:=HH.out.ins.chg hw8 hib
   have i2 : W8.cell? ⟨p.ib,2,none⟩ = some (.map (some p.cb)):=h2.cell 2
   have z8 : p.ib < W8.heap.size:=h2.sz
   have hbs:=(HBX.out.chg (T:=29) (S:=fun i=>w1.heap.size ≤ i) (w':=W3) ⟨HB3.out.os,HB3.out.tape,HB3.out.output,HB3.out.size,fun i hi hn=>HB3.out.block i (by omega)⟩ (by have:=HBX.out.sz;omega))
   have hbs8:=hbs.chg HC8.out (fun e=>e.elim (fun e=>map_ne HM3.out hbs e.symm) (fun e=>by have:=HBX.out.sz;omega))
   have b0 : W8.cell? ⟨w.heap.size,0,none⟩ = some (.int .i64 s.1):=hbs8.cell 0
   have b1 : W8.cell? ⟨w.heap.size,1,none⟩ = some (.int .i64 s.2):=hbs8.cell 1
   have hcb : ¬ p.cb = b:=fun e=>HNE.out.1 e.symm
   obtain ⟨w9,hput,hm9,hg9⟩:=((HH.out.mc.chg hw8 hcb).below (w':=W8.drew) (Below.drew (Below.refl _ _))).put ts uC cl0 HL.out HSK.out.1 (some b,Pf.cnt (l,m) k n)
   have HM9:=hid hm9
   have HG9 : Hid (W8.grownBy w9 (some p.cb)):=⟨hg9.os,hg9.tape,hg9.output,hg9.size,hg9.block⟩
   obtain ⟨m8,hm8⟩ : ∃ x,(Pf.cnt (l,m) k n).2 = x:=⟨_,rfl⟩
   rw [hm8] at HY8
   unfold TS vC at hput
   dsimp only at hput
   rw [hm8] at hput
   have y0 : W8.cell? ⟨w1.heap.size,0,none⟩ = some (.map (some b)):=HY8.out.cell 0
   have y1 : W8.cell? ⟨w1.heap.size,1,none⟩ = some (.bool m8):=HY8.out.cell 1
   clear hm9 hg9 hm8 hw8 h2 hbs hbs8 hib hcb
   go_region
   go_wp2
   go_end0
   exact CallI.mk HH.out HWb.out HC.out (by first|exact .inl rfl|exact .inr ⟨rfl,HDL.out⟩) HW8.out HG9.out HM9.out HM8.out HNE.out.1
 ·dsimp only at e e2
  subst e
  subst e2
  go_upto_region 4 with fail
  refine region_named fun W3 hW3=>?_
  obtain ⟨b,hb⟩ : ∃ b,b = W2.heap.size:=⟨_,rfl⟩
  rw [← hb] at hW3 ⊢
  have hz2:=HB2.out.size
  have hz1:=HS.out
  have HY3 : Hid (BX W3 w1.heap.size #[.map (some b),.bool m] 85):=by
   show BX _ _ _ _
   rw [hW3]
   exact BX.below (w:=W2.setCell ⟨w1.heap.size,0,none⟩ (.map (some b))) (show BX _ _ #[.map (some b),.bool m] _ from box_set HY.out 0 (.map (some b))) ((Below.refl _ _).alloc (Nat.le_refl _) _)
  have HC3 : Hid (Chg (fun i=>i = w1.heap.size) W2 W3):=by
   show Chg _ _ _
   rw [hW3]
   exact ((Chg.refl (fun i=>i = w1.heap.size) W2).set (p:=⟨w1.heap.size,0,none⟩) (.inl rfl) _).alloc _
  have HB3 : Hid (Below w1.heap.size w1 W3):=(HB2.out.trans ((HC3.out.to_below (B:=w1.heap.size) (fun k e=>by omega) hz2)))
  have HM3 : Hid (MapL TI vI W3 b []):=by
   show MapL _ _ _ _ _
   rw [hW3,hb]
   have e:=MapL.new (T:=TI) (val:=vI) (W2.setCell ⟨w1.heap.size,0,none⟩ (.map (some W2.heap.size)))
   have hsz : (W2.setCell ⟨w1.heap.size,0,none⟩ (.map (some W2.heap.size))).heap.size = W2.heap.size:=by simp [World.setCell]
   rw [hsz] at e
   exact e
  have HDL : Hid (w.heap.size ≤ b):=by show w.heap.size ≤ b;have:=HB1.out.size;omega
  have HNE : Hid (b ≠ p.cb ∧ b ≠ p.ib):=by
   have h1:=HH1.out.mc.lt
   have h2:=HH1.out.ins.sz
   exact ⟨by omega,by omega⟩
  clear hW3 hb hz2 hz1 HC3 hmk hq HH1
  have y0 : W3.cell? ⟨w1.heap.size,0,none⟩ = some (.map (some b)):=HY3.out.cell 0
  have y1 : W3.cell? ⟨w1.heap.size,1,none⟩ = some (.bool m):=HY3.out.cell 1
  have f1 : W3.frozen? ⟨w1.heap.size,1,none⟩ = false:=HY3.out.frozen 1
  have z3 : w1.heap.size < W3.heap.size:=HY3.out.sz
  have lo:=HM3.out.look_ok ti uE 0 (zI W3) HSK.out.2
  have ln:=HM3.out.len uE
  have HAd:=hid (addI_any HM3.out HSK.out.2 (HOK.out.bdlook k) HN.out (by have:=HOK.out.ln;unfold maxLen;dsimp only at this;omega))
  unfold TI vI at lo
  dsimp only at lo
  obtain ⟨v,hv⟩ : ∃ v,Pf.look 0 ([] : List Sn) k = v:=⟨_,rfl⟩
  rw [hv] at lo
  obtain ⟨dk,hdk⟩ : ∃ d,decide (k ∈ keys ([] : List Sn)) = d:=⟨_,rfl⟩
  rw [hdk] at lo
  have HDK:=hid hdk
  clear hdk hv
  cases dk
  ·have HCN : Hid (Pf.cnt (([] : List Sn),m) k n = (alt 0 ([] : List Sn) k (fun y=>Pf.more y n),m)):=if_pos (.inr (by show 0 < 4;decide))
   go_upto_region 8 with (go_at_call 41;refine HAd.out.mono ?_;rintro e w4 ⟨rfl,hm4,hg4⟩;have HM4:=hid hm4;have HG4:=hid hg4;clear hm4 hg4)
   refine region_named fun W8 hW8=>?_
   subst hW8
   have HM8 : Hid (MapL TI vI W8 b (Pf.cnt (([] : List Sn),m) k n).1):=by show MapL _ _ _ _ _;rw [HCN.out];exact HM4.out
   have HC8 : Hid (Chg (fun i=>i = b ∨ i = w1.heap.size) W3 W8):=Chg.of_grown HG4.out (fun j e=>.inl (Option.some.inj e).symm)
   have HY8 : Hid (BX W8 w1.heap.size #[.map (some b),.bool (Pf.cnt (([] : List Sn),m) k n).2] 85):=by show BX _ _ _ _;rw [HCN.out];exact HY3.out.chg (Chg.of_grown (S:=fun i=>i = b) HG4.out (fun j e=>(Option.some.inj e).symm)) (fun e=>map_ne HM3.out HY3.out e.symm)
   clear HM4 HG4
   clear y0 y1 y2 f1 z3 lo ln HAd HDK HCN
   have hw8 : Chg (fun i=>i = b) w W8:=(((Chg.of_below HB1.out).trans (T:=fun i=>w1.heap.size ≤ i) ⟨HB3.out.os,HB3.out.tape,HB3.out.output,HB3.out.size,fun i hi hn=>HB3.out.block i (by omega)⟩ (fun i e=>.inr (Nat.le_trans HB1.out.size e))).trans HC8.out (fun i e=>e.imp id (fun e=>by have:=HB1.out.size;omega)))
   have HW8:=hid hw8
   have hib : ¬ p.ib = b:=fun e=>HNE.out.2 e.symm
   have h2:=HH.out.ins.chg hw8 hib
   have i2 : W8.cell? ⟨p.ib,2,none⟩ = some (.map (some p.cb)):=h2.cell 2
   have z8 : p.ib < W8.heap.size:=h2.sz
   have hbs:=(HBX.out.chg (T:=29) (S:=fun i=>w1.heap.size ≤ i) (w':=W3) ⟨HB3.out.os,HB3.out.tape,HB3.out.output,HB3.out.size,fun i hi hn=>HB3.out.block i (by omega)⟩ (by have:=HBX.out.sz;omega))
   have hbs8:=hbs.chg HC8.out (fun e=>e.elim (fun e=>map_ne HM3.out hbs e.symm) (fun e=>by have:=HBX.out.sz;omega))
   have b0 : W8.cell? ⟨w.heap.size,0,none⟩ = some (.int .i64 s.1):=hbs8.cell 0
   have b1 : W8.cell? ⟨w.heap.size,1,none⟩ = some (.int .i64 s.2):=hbs8.cell 1
   have hcb : ¬ p.cb = b:=fun e=>HNE.out.1 e.symm
   obtain ⟨w9,hput,hm9,hg9⟩:=((HH.out.mc.chg hw8 hcb).below (w':=W8.drew) (Below.drew (Below.refl _ _))).put ts uC cl0 HL.out HSK.out.1 (some b,Pf.cnt (([] : List Sn),m) k n)
   have HM9:=hid hm9
   have HG9 : Hid (W8.grownBy w9 (some p.cb)):=⟨hg9.os,hg9.tape,hg9.output,hg9.size,hg9.block⟩
   obtain ⟨m8,hm8⟩ : ∃ x,(Pf.cnt (([] : List Sn),m) k n).2 = x:=⟨_,rfl⟩
   rw [hm8] at HY8
   unfold TS vC at hput
   dsimp only at hput
   rw [hm8] at hput
   have y0 : W8.cell? ⟨w1.heap.size,0,none⟩ = some (.map (some b)):=HY8.out.cell 0
   have y1 : W8.cell? ⟨w1.heap.size,1,none⟩ = some (.bool m8):=HY8.out.cell 1
   clear hm9 hg9 hm8 hw8 h2 hbs hbs8 hib hcb
   go_region
   go_wp2
   go_end0
   exact CallI.mk HH.out HWb.out HC.out (by first|exact .inl rfl|exact .inr ⟨rfl,HDL.out⟩) HW8.out HG9.out HM9.out HM8.out HNE.out.1
  ·exact absurd HDK.out (by simp [keys])
end Go.Proofs.Ytfphiomhlhpphaa
namespace Go.Proofs.Ytfphiomhlhpphaa
open Go Go.RowKit
open Pf (Site Sn ix addk alt keys)
set_option maxRecDepth 100000
set_option maxHeartbeats 2000000
def MO {κ β : Type} (T : KT κ) (val : β → Value) (w : World) (mo : Option Nat) (L : List (κ × β)) : Prop:=(∃ b,mo = some b ∧ MapL T val w b L) ∨ (mo = none ∧ L = [])
section
variable {κ β : Type} {T : KT κ} {val : β → Value} {w w' : World} {mo : Option Nat} {L : List (κ × β)}
theorem MO.below (h : MO T val w mo L) (hb : Below w.heap.size w w') : MO T val w' mo L:=h.imp_left fun ⟨b,e,h⟩=>⟨b,e,h.below hb⟩
theorem MO.nd (h : MO T val w mo L) : (keys L).Nodup:=by
 rcases h with ⟨b,-,h⟩|⟨-,rfl⟩
 ·exact h.nd
 ·simp [keys]
theorem MO.look [DecidableEq κ] (h : MO T val w mo L) (hT : T.Is) {t e : TypeId} (ht : Try.prog.underlying t = some (.map T.t e)) (d : β) (hz : (zeroValue e).run Try.prog w = .ok (val d) w) {k : κ} (hk : T.ok k) :
  (Instr.lookup t (.map mo) (T.mkv k) false).run Try.prog w = .ok (val (Pf.look d L k)) w:=by
 rcases h with ⟨b,rfl,h⟩|⟨rfl,rfl⟩
 ·exact h.look hT ht d hz hk
 ·exact Maps.look_nil false hT.keyed ht hz (hT.of hk)
end
theorem fld0 (a b c : Option Nat) (W : World) : (Instr.field 77 (.agg #[.map a,.map b,.map c]) 0).run Try.prog W = .ok (.map a) W:=by kernel_rfl
theorem fld1 (a b c : Option Nat) (W : World) : (Instr.field 77 (.agg #[.map a,.map b,.map c]) 1).run Try.prog W = .ok (.map b) W:=by kernel_rfl
theorem fld2 (a b c : Option Nat) (W : World) : (Instr.field 77 (.agg #[.map a,.map b,.map c]) 2).run Try.prog W = .ok (.map c) W:=by kernel_rfl
theorem fldc (a : Option Nat) (m : Bool) (W : World) : (Instr.field 85 (.agg #[.map a,.bool m]) 0).run Try.prog W = .ok (.map a) W:=by kernel_rfl
structure Sees (w : World) (v : Value) (E : List Sn) (J : List (Site × Int)) (C : List (Site × Cl)) (me mj mc : Option Nat) : Prop where
 seen : ∀ W,Below w.heap.size w W → Calls Try.prog 44 #[v] W fun e w'=>e = .returned (.agg #[.map me,.map mj,.map mc]) ∧ Below W.heap.size W w'
 he : MO TI vI w me E
 hj : MO TS vI w mj J
 hc : MO TS vC w mc C
 cl : ∀ s,ClR w (Pf.look cl0 C s)
theorem Sees.below {w w' : World} {v : Value} {E : List Sn} {J : List (Site × Int)} {C : List (Site × Cl)} {me mj mc : Option Nat} (h : Sees w v E J C me mj mc) (hb : Below w.heap.size w w') : Sees w' v E J C me mj mc :=
 ⟨fun W hW=>h.seen W (belows hb hW hb.size),h.he.below hb,h.hj.below hb,h.hc.below hb,fun s=>(h.cl s).below hb⟩
theorem PP.sees {w : World} {base pb : Nat} {p : IV} (h : PP w base pb p) : Sees w (.pointer (some ⟨pb,0,none⟩)) p.E p.J p.C (some p.eb) (some p.jb) (some p.cb) :=
 ⟨fun _ hW=>seen_yes (h.below hW),.inl ⟨_,rfl,h.has.me⟩,.inl ⟨_,rfl,h.has.mj⟩,.inl ⟨_,rfl,h.has.mc⟩,h.has.cl⟩
theorem NoP.sees {w : World} {v : Value} (h : NoP w v) : Sees w v [] [] [] none none none :=
 ⟨fun _ hW=>seen_no (h.below hW),.inr ⟨rfl,rfl⟩,.inr ⟨rfl,rfl⟩,.inr ⟨rfl,rfl⟩,fun _=>.inr ⟨rfl,rfl⟩⟩
section
variable {w : World} {v : Value} {E : List Sn} {J : List (Site × Int)} {C : List (Site × Cl)} {me mj mc : Option Nat}
theorem entered_any (h : Sees w v E J C me mj mc) {f : Int} (hf : I8 f) : Calls Try.prog 15 #[v,.int .i64 f] w fun e w'=>e = .returned (.int .i64 (Pf.look 0 E f)) ∧ Below w.heap.size w w':=by
 have HS:=hid (h.seen w (Below.refl _ _))
 have HL:=hid (fun W (hb : Below w.heap.size w W)=>(h.he.below hb).look ti uE 0 (zI W) hf)
 have hf0:=fld0 me mj mc
 unfold TI vI at HL
 dsimp only at HL
 clear h hf
 go_enter Try.func15,Try.ntmps15
 go_wp2_with (go_at_call 44;refine HS.out.mono ?_;rintro e W ⟨rfl,hb⟩;have lk:=HL.out W hb;have HB:=hid hb;clear hb)
 go_ret
 exact ⟨rfl,HB.out⟩
theorem jumped_any (h : Sees w v E J C me mj mc) {s : Site} (hs : TS.ok s) : Calls Try.prog 16 #[v,sV s] w fun e w'=>e = .returned (.int .i64 (Pf.look 0 J s)) ∧ Below w.heap.size w w':=by
 obtain ⟨w1,hw1⟩ : ∃ w1,w1 = w.alloc (.cells #[.int .i64 s.1,.int .i64 s.2] 29):=⟨_,rfl⟩
 have hb1 : Below w.heap.size w w1:=by rw [hw1];exact (Below.refl _ _).alloc (Nat.le_refl _) _
 have bx : BX w1 w.heap.size #[.int .i64 s.1,.int .i64 s.2] 29:=by rw [hw1];exact BX.new w _ _
 have b0:=fun d os=>cell_regrown (bx.cell 0 : w1.cell? ⟨w.heap.size,0,none⟩ = some (.int .i64 s.1)) d os
 have b1:=fun d os=>cell_regrown (bx.cell 1 : w1.cell? ⟨w.heap.size,1,none⟩ = some (.int .i64 s.2)) d os
 have h1:=h.below hb1
 have HS:=hid (fun d os=>Calls.regrown_of (d:=d) (os:=os) (w:=w1) (h1.seen _ (below_regrown w1 d os)))
 have lk:=fun d os=>(h1.hj.below (below_regrown w1 d os)).look ts uJ 0 (zI (Sort.grow (redrawn w1 d) os)) hs
 have hf0:=fld1 me mj mc
 have HB1:=hid hb1
 have HW1:=hid hw1
 unfold TS vI at lk
 unfold sV
 dsimp only at lk
 clear h hs hb1 hw1 bx h1
 go_enter Try.func16,Try.ntmps16
 go_upto_region 1 with fail
 rw [← HW1.out]
 refine wp_region_quiet_below (by kernel_rfl) (by kernel_rfl) ?_
 (repeat (go_big_quiet_step (exact HS.out _ _)))
 refine wpQuiet_nil ?_
 intro W hw'
 obtain ⟨⟨dq,osq⟩,hw''⟩:=hw'
 have hbq:=below_regrown w1 dq osq
 rw [← hw''] at hbq
 clear hw''
 go_wp2
 go_ret
 exact ⟨rfl,belows HB1.out hbq HB1.out.size⟩
theorem kindp_any (h : Sees w v E J C me mj mc) {s : Site} (hs : TS.ok s) : Calls Try.prog 18 #[v,sV s] w fun e w'=>e = .returned (.int .i64 (Pf.kind (Pf.look cl0 C s).2)) ∧ Below w.heap.size w w':=by
 obtain ⟨w1,hw1⟩ : ∃ w1,w1 = w.alloc (.cells #[.int .i64 s.1,.int .i64 s.2] 29):=⟨_,rfl⟩
 have hb1 : Below w.heap.size w w1:=by rw [hw1];exact (Below.refl _ _).alloc (Nat.le_refl _) _
 have bx : BX w1 w.heap.size #[.int .i64 s.1,.int .i64 s.2] 29:=by rw [hw1];exact BX.new w _ _
 have b0:=fun d os=>cell_regrown (bx.cell 0 : w1.cell? ⟨w.heap.size,0,none⟩ = some (.int .i64 s.1)) d os
 have b1:=fun d os=>cell_regrown (bx.cell 1 : w1.cell? ⟨w.heap.size,1,none⟩ = some (.int .i64 s.2)) d os
 have h1:=h.below hb1
 have HS:=hid (fun d os=>Calls.regrown_of (d:=d) (os:=os) (w:=w1) (h1.seen _ (below_regrown w1 d os)))
 have HK:=hid (fun d os=>Calls.regrown_of (d:=d) (os:=os) (w:=w1) (kind_any ((h1.cl s).below (below_regrown w1 d os))))
 have lk:=fun d os=>(h1.hc.below (below_regrown w1 d os)).look ts uC cl0 (zC (Sort.grow (redrawn w1 d) os)) hs
 have hf0:=fld2 me mj mc
 have HB1:=hid hb1
 have HW1:=hid hw1
 unfold TS vC at lk
 unfold vC at HK
 unfold sV
 dsimp only at lk
 clear h hs hb1 hw1 bx h1
 obtain ⟨c,hc⟩ : ∃ c,Pf.look cl0 C s = c:=⟨_,rfl⟩
 rw [hc] at lk HK ⊢
 clear hc
 go_enter Try.func18,Try.ntmps18
 go_upto_region 1 with fail
 rw [← HW1.out]
 refine wp_region_quiet_below (by kernel_rfl) (by kernel_rfl) ?_
 (repeat (go_big_quiet_step ((first|(with_reducible exact HS.out _ _)|(with_reducible exact HK.out _ _)))))
 refine wpQuiet_nil ?_
 intro W hw'
 obtain ⟨⟨dq,osq⟩,hw''⟩:=hw'
 have hbq:=below_regrown w1 dq osq
 rw [← hw''] at hbq
 clear hw''
 go_wp2
 go_ret
 exact ⟨rfl,belows HB1.out hbq HB1.out.size⟩
end
def iv0 (ib eb jb cb : Nat) : IV:=⟨ib,eb,jb,cb,[],[],[]⟩
theorem newI_any (w : World) : Calls Try.prog 27 #[] w fun e w'=>∃ p : IV,p.E = [] ∧ p.J = [] ∧ p.C = [] ∧ e = .returned (.pointer (some ⟨p.ib,0,none⟩)) ∧ IP w' w.heap.size p ∧ Below w.heap.size w w':=by
 have hm1:=fun W=>run_makeMap (P:=Try.prog) 73 W
 have hm2:=fun W=>run_makeMap (P:=Try.prog) 74 W
 have hm3:=fun W=>run_makeMap (P:=Try.prog) 75 W
 go_enter Try.func27,Try.ntmps27
 go_wp2
 go_ret
 obtain ⟨w1,e1⟩ : ∃ w1,w1 = w.alloc (.map #[] 0):=⟨_,rfl⟩
 obtain ⟨w2,e2⟩ : ∃ w2,w2 = w1.alloc (.map #[] 0):=⟨_,rfl⟩
 obtain ⟨w3,e3⟩ : ∃ w3,w3 = w2.alloc (.map #[] 0):=⟨_,rfl⟩
 have z1 : w1.heap.size = w.heap.size + 1:=by rw [e1];simp
 have z2 : w2.heap.size = w.heap.size + 1 + 1:=by rw [e2];simp [z1]
 have z3 : w3.heap.size = w.heap.size + 1 + 1 + 1:=by rw [e3];simp [z2]
 have m1 : MapL TI vI w1 w.heap.size []:=by rw [e1];exact MapL.new w
 have m2 : MapL TS vI w2 (w.heap.size + 1) []:=by rw [e2,← z1];exact MapL.new w1
 have m3 : MapL TS vC w3 (w.heap.size + 1 + 1) []:=by rw [e3,← z2];exact MapL.new w2
 rw [← e1,← e2,← e3]
 have b1 : Below w.heap.size w w1:=by rw [e1];exact (Below.refl _ _).alloc (Nat.le_refl _) _
 have b2 : Below w1.heap.size w1 w2:=by rw [e2];exact (Below.refl _ _).alloc (Nat.le_refl _) _
 have b3 : Below w2.heap.size w2 w3:=by rw [e3];exact (Below.refl _ _).alloc (Nat.le_refl _) _
 have b4:=(Below.refl w3.heap.size w3).alloc (Nat.le_refl _) (.cells #[.map (some w.heap.size),.map (some (w.heap.size + 1)),.map (some (w.heap.size + 1 + 1))] 77)
 have bx:=BX.new w3 #[.map (some w.heap.size),.map (some (w.heap.size + 1)),.map (some (w.heap.size + 1 + 1))] 77
 rw [z3] at bx
 refine ⟨iv0 (w.heap.size + 1 + 1 + 1) w.heap.size (w.heap.size + 1) (w.heap.size + 1 + 1),rfl,rfl,rfl,rfl,⟨bx,((m1.below b2).below b3).below b4,(m2.below b3).below b4,m3.below b4,(fun x hx=>by cases hx),(fun x hx=>by cases hx),?_,?_,?_,?_⟩,belows (belows (belows b1 b2 (by omega)) b3 (by omega)) b4 (by omega)⟩
 ·show w.heap.size ≠ w.heap.size + 1
  omega
 ·show w.heap.size ≠ w.heap.size + 1 + 1
  omega
 ·show w.heap.size + 1 ≠ w.heap.size + 1 + 1
  omega
 ·rintro k (e|e|e|e|⟨x,hx,-⟩)
  ·exact e ▸ (by show w.heap.size ≤ w.heap.size + 1 + 1 + 1;omega)
  ·exact e ▸ (Nat.le_refl _)
  ·exact e ▸ (by show w.heap.size ≤ w.heap.size + 1;omega)
  ·exact e ▸ (by show w.heap.size ≤ w.heap.size + 1 + 1;omega)
  ·cases hx
theorem new_any (w : World) : Calls Try.prog 7 #[] w fun e w'=>∃ (pb : Nat) (p : IV),p.E = [] ∧ p.J = [] ∧ p.C = [] ∧ e = .returned (.pointer (some ⟨pb,0,none⟩)) ∧ PP w' w.heap.size pb p ∧ Below w.heap.size w w':=by
 have HN:=hid (newI_any w)
 go_enter Try.func7,Try.ntmps7
 go_wp2_with (go_at_call 27;refine HN.out.mono ?_;rintro e w1 ⟨p,hE,hJ,hC,rfl,hI,hB⟩;have HI:=hid (And.intro (And.intro hE (And.intro hJ hC)) (And.intro hI hB));clear hE hJ hC hI hB)
 go_ret
 obtain ⟨⟨hE,hJ,hC⟩,hI,hB⟩:=HI.out
 have b4:=(Below.refl w1.heap.size w1).alloc (Nat.le_refl _) (.cells #[.pointer (some ⟨p.ib,0,none⟩)] 53)
 exact ⟨w1.heap.size,p,hE,hJ,hC,rfl,⟨BX.new w1 _ _,hI.below b4,hB.size⟩,belows hB b4 hB.size⟩
theorem IP.setE {w w' : World} {base : Nat} {p : IV} (h : IP w base p) (hg : Chg (fun i=>i = p.eb) w w') {E' : List Sn} (hm : MapL TI vI w' p.eb E') : IP w' base { p with E:=E' } :=
 ⟨h.ins.chg hg (fun e=>map_ne h.me h.ins e.symm),hm,h.mj.chg hg (fun e=>h.ej e.symm),h.mc.chg hg (fun e=>h.ec e.symm),(fun x hx=>by
  obtain ⟨b,e,h1,h2⟩:=h.ml x hx
  exact ⟨b,e,h1.chg hg h2.1,h2⟩),h.ap,h.ej,h.ec,h.jc,h.low⟩
theorem IP.setJ {w w' : World} {base : Nat} {p : IV} (h : IP w base p) (hg : Chg (fun i=>i = p.jb) w w') {J' : List (Site × Int)} (hm : MapL TS vI w' p.jb J') : IP w' base { p with J:=J' } :=
 ⟨h.ins.chg hg (fun e=>map_ne h.mj h.ins e.symm),h.me.chg hg h.ej,hm,h.mc.chg hg (fun e=>h.jc e.symm),(fun x hx=>by
  obtain ⟨b,e,h1,h2⟩:=h.ml x hx
  exact ⟨b,e,h1.chg hg h2.2.1,h2⟩),h.ap,h.ej,h.ec,h.jc,h.low⟩
theorem grown_chg {w w' : World} {b : Nat} (hg : w.grownBy w' (some b)) : Chg (fun i=>i = b) w w':=Chg.of_grown hg (fun j e=>(Option.some.inj e).symm)
section
variable {w : World} {base pb : Nat} {p : IV}
theorem enter_yes (h : PP w base pb p) {f : Int} (hf : I8 f) (hn : Pf.Bd (Pf.look 0 p.E f)) (hl : p.E.length < maxLen) : Calls Try.prog 12 #[.pointer (some ⟨pb,0,none⟩),.int .i64 f] w fun e w' =>
  e = .returned (.int .i64 (Pf.more (Pf.look 0 p.E f) 1)) ∧ PP w' base pb { p with E:=alt 0 p.E f (fun y=>Pf.more y 1) } ∧ Chg (fun i=>i = p.eb) w w':=by
 have HM:=hid (made_yes h)
 have HA:=hid (addI_any h.has.me hf hn Pf.bd1 hl)
 have b0 : w.cell? ⟨pb,0,none⟩ = some (.pointer (some ⟨p.ib,0,none⟩)):=h.box.cell 0
 have i0 : w.cell? ⟨p.ib,0,none⟩ = some (.map (some p.eb)):=h.has.ins.cell 0
 have HH:=hid h
 clear h hn hl hf
 go_enter Try.func12,Try.ntmps12
 go_wp2_with (first
  | (go_at_call 40;refine HM.out.mono ?_;rintro e w1 ⟨rfl,rfl⟩)
  | (go_at_call 41;refine HA.out.mono ?_;rintro e w1 ⟨rfl,hm,hg⟩;have HQ:=hid (And.intro hm hg);clear hm hg))
 go_ret
 have hg:=grown_chg HQ.out.2
 exact ⟨rfl,⟨HH.out.box.chg hg (fun e=>map_ne HH.out.has.me HH.out.box e.symm),HH.out.has.setE hg HQ.out.1,HH.out.low⟩,hg⟩
theorem back_yes (h : PP w base pb p) {s : Site} (hs : TS.ok s) (hn : Pf.Bd (Pf.look 0 p.J s)) (hl : p.J.length < maxLen) : Calls Try.prog 13 #[.pointer (some ⟨pb,0,none⟩),sV s] w fun e w' =>
  e = .returned (.int .i64 (Pf.more (Pf.look 0 p.J s) 1)) ∧ PP w' base pb { p with J:=alt 0 p.J s (fun y=>Pf.more y 1) } ∧ Chg (fun i=>i = p.jb) w w':=by
 obtain ⟨w1,hw1⟩ : ∃ w1,w1 = w.alloc (.cells #[.int .i64 s.1,.int .i64 s.2] 29):=⟨_,rfl⟩
 have hb1 : Below w.heap.size w w1:=by rw [hw1];exact (Below.refl _ _).alloc (Nat.le_refl _) _
 have bx : BX w1 w.heap.size #[.int .i64 s.1,.int .i64 s.2] 29:=by rw [hw1];exact BX.new w _ _
 have h1:=h.below hb1
 have HM:=hid (made_yes h1)
 have HA:=hid (fun W (hb : Below w1.heap.size w1 W)=>addS_any (h1.has.mj.below hb) hs hn Pf.bd1 hl)
 have HK:=hid (fun W X (hb : Below w1.heap.size w1 W) (hg : W.grownBy X (some p.jb))=>(show X.cell? ⟨pb,0,none⟩ = some (.pointer (some ⟨p.ib,0,none⟩)) ∧ X.cell? ⟨p.ib,1,none⟩ = some (.map (some p.jb)) ∧ X.cell? ⟨w.heap.size,0,none⟩ = some (.int .i64 s.1) ∧ X.cell? ⟨w.heap.size,1,none⟩ = some (.int .i64 s.2) from
  ⟨((h1.box.below hb).chg (grown_chg hg) (fun e=>map_ne h1.has.mj h1.box e.symm)).cell 0,((h1.has.ins.below hb).chg (grown_chg hg) (fun e=>map_ne h1.has.mj h1.has.ins e.symm)).cell 1,((bx.below hb).chg (grown_chg hg) (fun e=>map_ne h1.has.mj bx e.symm)).cell 0,((bx.below hb).chg (grown_chg hg) (fun e=>map_ne h1.has.mj bx e.symm)).cell 1⟩))
 have x0 : w1.cell? ⟨pb,0,none⟩ = some (.pointer (some ⟨p.ib,0,none⟩)):=h1.box.cell 0
 have x1 : w1.cell? ⟨p.ib,1,none⟩ = some (.map (some p.jb)):=h1.has.ins.cell 1
 have x2 : w1.cell? ⟨w.heap.size,0,none⟩ = some (.int .i64 s.1):=bx.cell 0
 have x3 : w1.cell? ⟨w.heap.size,1,none⟩ = some (.int .i64 s.2):=bx.cell 1
 have HW1:=hid hw1
 have HB1:=hid hb1
 have HH:=hid h
 unfold sV at HA ⊢
 clear h hs hn hl hw1 hb1 bx h1
 go_enter Try.func13,Try.ntmps13
 go_upto_region 1 with fail
 rw [← HW1.out]
 go_upto_region 3 with (go_at_call 40;refine HM.out.mono ?_;rintro e w1 ⟨rfl,rfl⟩)
 go_region_held3 (fun X=>X.cell? ⟨pb,0,none⟩ = some (.pointer (some ⟨p.ib,0,none⟩)) ∧ X.cell? ⟨p.ib,1,none⟩ = some (.map (some p.jb)) ∧ X.cell? ⟨w.heap.size,0,none⟩ = some (.int .i64 s.1) ∧ X.cell? ⟨w.heap.size,1,none⟩ = some (.int .i64 s.2))
  (first|exact ⟨x0,x1,x2,x3⟩|go_keep)
  (first|(go_at_call 42;refine (HA.out _ BLw).mono ?_;rintro e w4 ⟨rfl,hm4,hg4⟩;obtain ⟨y0,y1,y2,y3⟩:=HK.out _ _ BLw hg4;have HQ : Hid (MapL TS vI w4 p.jb (alt 0 p.J s (fun y=>Pf.more y 1)) ∧ Chg (fun i=>i = p.jb) w1 w4):=⟨hm4,(Chg.of_below (show Below w1.heap.size w1 _ from BLw)).trans (grown_chg hg4) (fun i e=>.inl e)⟩;clear hm4 hg4 x0 x1 x2 x3;have x0:=y0;have x1:=y1;have x2:=y2;have x3:=y3;clear y0 y1 y2 y3))
 go_wp2
 go_ret
 have hg : Chg (fun i=>i = p.jb) w _:=(Chg.of_below HB1.out).trans HQ.out.2 (fun i e=>.inl e)
 exact ⟨rfl,⟨HH.out.box.chg hg (fun e=>map_ne HH.out.has.mj HH.out.box e.symm),HH.out.has.setJ hg HQ.out.1,HH.out.low⟩,hg⟩
end
end Go.Proofs.Ytfphiomhlhpphaa
namespace Go.Proofs.Ytfphiomhlhpphaa
open Go Go.RowKit
open Pf (Site Sn look ix addk alt keys)
abbrev Ce:=Value × List Sn × Bool
def ce0 : Ce:=(.slice none 0 0,[],false)
structure PR where
 pb : Nat
 ev : Value
 jv : Value
 cv : Value
 E : List (Int × Int)
 J : List (Site × Int)
 C : List (Site × Ce)
def evL (x : Int × Int) : List Value:=[.int .i64 x.1,.int .i64 x.2]
def jvL (x : Site × Int) : List Value:=[.int .i64 x.1.1,.int .i64 x.1.2,.int .i64 x.2]
def cvL (x : Site × Ce) : List Value:=[.int .i64 x.1.1,.int .i64 x.1.2,x.2.1,.bool x.2.2.2]
theorem evL_len (x : Int × Int) : (evL x).length = 2:=rfl
theorem jvL_len (x : Site × Int) : (jvL x).length = 3:=rfl
theorem cvL_len (x : Site × Ce) : (cvL x).length = 4:=rfl
def PR.foot (r : PR) (k : Nat) : Prop:=k = r.pb ∨ r.ev.ownBlock = some k ∨ r.jv.ownBlock = some k ∨ r.cv.ownBlock = some k ∨ ∃ x ∈ r.C,x.2.1.ownBlock = some k
structure RefR (w : World) (base : Nat) (r : PR) : Prop where
 box : BX w r.pb #[r.ev,r.jv,r.cv] 68
 er : w.ownsRow base 95 2 r.ev r.E.length (r.E.flatMap evL)
 jr : w.ownsRow base 97 3 r.jv r.J.length (r.J.flatMap jvL)
 cr : w.ownsRow base 99 4 r.cv r.C.length (r.C.flatMap cvL)
 lr : ∀ x ∈ r.C,w.ownsRow base 44 2 x.2.1 x.2.2.1.length (x.2.2.1.flatMap evL)
 low : base ≤ r.pb
structure Good (r : PR) (n : Nat) : Prop where
 ne : (keys r.E).Nodup
 nj : (keys r.J).Nodup
 nc : (keys r.C).Nodup
 be : ∀ x ∈ r.E,Pf.Bd x.2
 bj : ∀ x ∈ r.J,Pf.Bd x.2
 bc : ∀ x ∈ r.C,(∀ y ∈ x.2.2.1,Pf.Bd y.2) ∧ (keys x.2.2.1).Nodup ∧ x.2.2.1.length ≤ 4
 le : r.E.length ≤ n
 lj : r.J.length ≤ n
 lc : r.C.length ≤ n
section
variable {S : Nat → Prop} {w w' : World} {base : Nat} {r : PR}
theorem own_lt {b : Nat} {e : TypeId} {s : Nat} {v : Value} {n : Nat} {xs : List Value} (h : w.ownsRow b e s v n xs) : ∀ k,v.ownBlock = some k → k < w.heap.size:=by
 intro k hk
 rcases h.2 with ⟨rfl,-⟩|⟨g,cap,cur,rfl,hg,hh,-⟩
 ·simp [Value.ownBlock] at hk
 ·simp only [Value.ownBlock,Option.some.injEq] at hk
  subst hk
  exact (Array.getElem?_eq_some_iff.1 hh).1
theorem RefR.lows (h : RefR w base r) : ∀ k,r.foot k → base ≤ k ∧ k < w.heap.size:=by
 rintro k (rfl|e|e|e|⟨x,hx,e⟩)
 ·exact ⟨h.low,h.box.sz⟩
 ·exact ⟨Kit.own_base h.er k e,own_lt h.er k e⟩
 ·exact ⟨Kit.own_base h.jr k e,own_lt h.jr k e⟩
 ·exact ⟨Kit.own_base h.cr k e,own_lt h.cr k e⟩
 ·exact ⟨Kit.own_base (h.lr x hx) k e,own_lt (h.lr x hx) k e⟩
theorem RefR.chg (h : RefR w base r) (hc : Chg S w w') (hs : ∀ k,r.foot k → ¬ S k) : RefR w' base r :=
 ⟨h.box.chg hc (hs _ (.inl rfl)),owns_chg h.er hc (fun k e=>hs k (.inr (.inl e))),owns_chg h.jr hc (fun k e=>hs k (.inr (.inr (.inl e)))),owns_chg h.cr hc (fun k e=>hs k (.inr (.inr (.inr (.inl e))))),
  fun x hx=>owns_chg (h.lr x hx) hc (fun k e=>hs k (.inr (.inr (.inr (.inr ⟨x,hx,e⟩))))),h.low⟩
theorem RefR.below (h : RefR w base r) (hb : Below w.heap.size w w') : RefR w' base r:=h.chg (S:=fun _=>False) (Chg.of_below hb) (fun _ _ e=>e)
theorem RefR.cells (h : RefR w base r) : w.cell? ⟨r.pb,0,none⟩ = some r.ev ∧ w.cell? ⟨r.pb,1,none⟩ = some r.jv ∧ w.cell? ⟨r.pb,2,none⟩ = some r.cv:=⟨h.box.cell 0,h.box.cell 1,h.box.cell 2⟩
end
theorem row_at {α : Type} {f : α → List Value} {s : Nat} (hf : ∀ x,(f x).length = s) {w : World} {base : Nat} {e : TypeId} {v : Value} {L : List α} (h : w.ownsRow base e s v L.length (L.flatMap f)) {k : Nat} {x : α} (hx : L[k]? = some x) :
  ∃ g cap,v = .slice (some ⟨g,0,none⟩) L.length cap ∧ base ≤ g ∧ g < w.heap.size ∧ ∀ j,j < s → w.cell? ⟨g,k * s + j,none⟩ = (f x)[j]? ∧ w.frozen? ⟨g,k * s + j,none⟩ = false:=by
 have hk:=(List.getElem?_eq_some_iff.1 hx).1
 rcases h.2 with ⟨-,h2⟩|⟨g,cap,cur,h1,hg,hh,hc1,hc2,hc3,ht⟩
 ·omega
 ·refine ⟨g,cap,h1,hg,(Array.getElem?_eq_some_iff.1 hh).1,fun j hj=>⟨?_,by simp [World.frozen?,hh]⟩⟩
  have hx2:=Kit.flat_at hf hx j hj
  have hlt : k * s + j < L.length * s:=by
   have : (k + 1) * s ≤ L.length * s:=Nat.mul_le_mul_right s hk
   rw [Nat.add_mul] at this
   omega
  have : cur[k * s + j]? = (f x)[j]?:=by
   rw [← ht,List.getElem?_take_of_lt hlt] at hx2
   simpa using hx2
  simp [World.cell?,hh,this]
theorem flat_set {α : Type} {f : α → List Value} {s : Nat} (hf : ∀ x,(f x).length = s) : ∀ {L : List α} {k : Nat} {x y : α} {j : Nat} {u : Value},L[k]? = some x → j < s → f y = (f x).set j u → (L.set k y).flatMap f = (L.flatMap f).set (k * s + j) u
 | [],_,_,_,_,_,h,_,_=>by simp at h
 | a :: L,0,x,y,j,u,h,hj,hy=>by
  simp only [List.getElem?_cons_zero,Option.some.injEq] at h
  subst h
  rw [List.set_cons_zero,List.flatMap_cons,List.flatMap_cons,hy,Nat.zero_mul,Nat.zero_add,List.set_append_left _ _ (by rw [hf];exact hj)]
 | a :: L,k + 1,x,y,j,u,h,hj,hy=>by
  rw [List.set_cons_succ,List.flatMap_cons,List.flatMap_cons,flat_set hf (by simpa using h) hj hy]
  have e : (k + 1) * s + j = (f a).length + (k * s + j):=by rw [hf,Nat.add_mul];omega
  rw [e,List.set_append_right _ _ (by omega),Nat.add_sub_cancel_left]
end Go.Proofs.Ytfphiomhlhpphaa
namespace Go.Proofs.Ytfphiomhlhpphaa
open Go.Shelf
def Sh.sort_ren : Go.Shelf.Ren:=⟨fun|6=>59|14=>78|15=>79|20=>83|21=>84|22=>85|23=>86|24=>87|25=>88|26=>89|27=>90|28=>91|29=>92|46=>93|47=>94|48=>95|49=>96|50=>97|57=>98|n=>n,fun|0=>0|3=>3|4=>4|5=>5|9=>9|22=>82|24=>87|25=>106|39=>123|45=>128|46=>129|50=>56|53=>135|55=>137|66=>138|70=>142|76=>144|77=>145|n=>n,fun|n=>n⟩
theorem Sh.sort : Go.Proofs.SlLaysF0.n6 Try.prog Sh.sort_ren:={
 mixed:=by kernel_rfl
 f6:=⟨ "slices.SortFunc[[]tabard/profile.row,tabard/profile.row]",by decide,Try.func59.trans (congrArg some (by kernel_rfl))⟩
 f14:=⟨ "slices.pdqsortCmpFunc[tabard/profile.row]",by decide,Try.func78.trans (congrArg some (by kernel_rfl))⟩
 f15:=Try.func79.trans (congrArg some (by kernel_rfl))
 f20:=⟨ "slices.insertionSortCmpFunc[tabard/profile.row]",by decide,Try.func83.trans (congrArg some (by kernel_rfl))⟩
 f21:=⟨ "slices.heapSortCmpFunc[tabard/profile.row]",by decide,Try.func84.trans (congrArg some (by kernel_rfl))⟩
 f22:=⟨ "slices.breakPatternsCmpFunc[tabard/profile.row]",by decide,Try.func85.trans (congrArg some (by kernel_rfl))⟩
 f23:=⟨ "slices.choosePivotCmpFunc[tabard/profile.row]",by decide,Try.func86.trans (congrArg some (by kernel_rfl))⟩
 f24:=⟨ "slices.reverseRangeCmpFunc[tabard/profile.row]",by decide,Try.func87.trans (congrArg some (by kernel_rfl))⟩
 f25:=⟨ "slices.partialInsertionSortCmpFunc[tabard/profile.row]",by decide,Try.func88.trans (congrArg some (by kernel_rfl))⟩
 f26:=⟨ "slices.partitionEqualCmpFunc[tabard/profile.row]",by decide,Try.func89.trans (congrArg some (by kernel_rfl))⟩
 f27:=⟨ "slices.partitionCmpFunc[tabard/profile.row]",by decide,Try.func90.trans (congrArg some (by kernel_rfl))⟩
 f28:=Try.func91.trans (congrArg some (by kernel_rfl))
 f29:=Try.func92.trans (congrArg some (by kernel_rfl))
 f46:=⟨ "slices.siftDownCmpFunc[tabard/profile.row]",by decide,Try.func93.trans (congrArg some (by kernel_rfl))⟩
 f47:=Try.func94.trans (congrArg some (by kernel_rfl))
 f48:=Try.func95.trans (congrArg some (by kernel_rfl))
 f49:=⟨ "slices.medianAdjacentCmpFunc[tabard/profile.row]",by decide,Try.func96.trans (congrArg some (by kernel_rfl))⟩
 f50:=⟨ "slices.medianCmpFunc[tabard/profile.row]",by decide,Try.func97.trans (congrArg some (by kernel_rfl))⟩
 f57:=⟨ "slices.order2CmpFunc[tabard/profile.row]",by decide,Try.func98.trans (congrArg some (by kernel_rfl))⟩
 t0:=Try.underlying0
 a0:=Try.isAgg0
 z0:=Try.sizeOf0
 v0:=Try.zeroValue0
 t3:=Try.underlying3
 a3:=Try.isAgg3
 z3:=Try.sizeOf3
 v3:=Try.zeroValue3
 t4:=Try.underlying4
 a4:=Try.isAgg4
 z4:=Try.sizeOf4
 v4:=Try.zeroValue4
 t5:=Try.underlying5
 a5:=Try.isAgg5
 z5:=Try.sizeOf5
 v5:=Try.zeroValue5
 t9:=Try.underlying9
 a9:=Try.isAgg9
 z9:=Try.sizeOf9
 v9:=Try.zeroValue9
 t22:=Try.underlying82
 a22:=Try.isAgg82
 z22:=Try.sizeOf82
 v22:=Try.zeroValue82
 t25:=Try.underlying106
 a25:=Try.isAgg106
 z25:=Try.sizeOf106
 v25:=Try.zeroValue106
 t39:=Try.underlying123
 a39:=Try.isAgg123
 z39:=Try.sizeOf123
 v39:=Try.zeroValue123
 t45:=Try.underlying128
 a45:=Try.isAgg128
 z45:=Try.sizeOf128
 v45:=Try.zeroValue128
 t46:=Try.underlying129
 a46:=Try.isAgg129
 z46:=Try.sizeOf129
 v46:=Try.zeroValue129
 t50:=Try.underlying56
 a50:=Try.isAgg56
 z50:=Try.sizeOf56
 v50:=Try.zeroValue56
 t53:=Try.underlying135
 a53:=Try.isAgg135
 z53:=Try.sizeOf135
 v53:=Try.zeroValue135
 t55:=Try.underlying137
 a55:=Try.isAgg137
 z55:=Try.sizeOf137
 v55:=Try.zeroValue137
 t66:=Try.underlying138
 a66:=Try.isAgg138
 z66:=Try.sizeOf138
 v66:=Try.zeroValue138
 t70:=Try.underlying142
 a70:=Try.isAgg142
 z70:=Try.sizeOf142
 v70:=Try.zeroValue142
 t76:=Try.underlying144
 a76:=Try.isAgg144
 z76:=Try.sizeOf144
 v76:=Try.zeroValue144
 t77:=Try.underlying145
 a77:=Try.isAgg145
 z77:=Try.sizeOf145
 v77:=Try.zeroValue145 }
end Go.Proofs.Ytfphiomhlhpphaa
namespace Go.Proofs.Ytfphiomhlhpphaa
open Go Go.RowKit
open Pf (Site Sn ix addk alt keys)
theorem nan_any (x : Int) (w : World) : Calls Try.prog 81 #[.int .i64 x] w fun e w'=>e = .returned (.bool false) ∧ w = w':=by
 go_enter Try.func81,Try.ntmps81
 go_wp2
 go_ret
 exact ⟨by simp,rfl⟩
theorem compare_any (x y : Int) (w : World) : Calls Try.prog 63 #[.int .i64 x,.int .i64 y] w fun e w'=>e = .returned (.int .i64 (Lib.compareInt x y)) ∧ w = w':=by
 unfold Lib.compareInt
 have HN:=fun x=>nan_any x w
 by_cases h1 : x < y
 ·rw [if_pos h1]
  go_enter Try.func63,Try.ntmps63
  go_wp2_with (go_at_call 81;refine (HN _).mono ?_;rintro e w' ⟨rfl,rfl⟩)
  go_ret
  exact ⟨rfl,rfl⟩
 ·rw [if_neg h1]
  by_cases h2 : x > y
  ·rw [if_pos h2]
   have h2' : y < x:=h2
   go_enter Try.func63,Try.ntmps63
   go_wp2_with (go_at_call 81;refine (HN _).mono ?_;rintro e w' ⟨rfl,rfl⟩)
   go_ret
   exact ⟨rfl,rfl⟩
  ·rw [if_neg h2]
   have h2' : ¬ y < x:=h2
   go_enter Try.func63,Try.ntmps63
   go_wp2_with (go_at_call 81;refine (HN _).mono ?_;rintro e w' ⟨rfl,rfl⟩)
   go_ret
   exact ⟨rfl,rfl⟩
theorem nanL_any (x : Int) (w : World) : Calls Try.prog 80 #[.int .i64 x] w fun e w'=>e = .returned (.bool false) ∧ w = w':=by
 go_enter Try.func80,Try.ntmps80
 go_wp2
 go_ret
 exact ⟨by simp,rfl⟩
theorem compareL_any (x y : Int) (w : World) : Calls Try.prog 62 #[.int .i64 x,.int .i64 y] w fun e w'=>e = .returned (.int .i64 (Lib.compareInt x y)) ∧ w = w':=by
 unfold Lib.compareInt
 have HN:=fun x=>nanL_any x w
 by_cases h1 : x < y
 ·rw [if_pos h1]
  go_enter Try.func62,Try.ntmps62
  go_wp2_with (go_at_call 80;refine (HN _).mono ?_;rintro e w' ⟨rfl,rfl⟩)
  go_ret
  exact ⟨rfl,rfl⟩
 ·rw [if_neg h1]
  by_cases h2 : x > y
  ·rw [if_pos h2]
   have h2' : y < x:=h2
   go_enter Try.func62,Try.ntmps62
   go_wp2_with (go_at_call 80;refine (HN _).mono ?_;rintro e w' ⟨rfl,rfl⟩)
   go_ret
   exact ⟨rfl,rfl⟩
  ·rw [if_neg h2]
   have h2' : ¬ y < x:=h2
   go_enter Try.func62,Try.ntmps62
   go_wp2_with (go_at_call 80;refine (HN _).mono ?_;rintro e w' ⟨rfl,rfl⟩)
   go_ret
   exact ⟨rfl,rfl⟩
theorem or_any (c d : Int) (b cap : Nat) (w : World) (h0 : w.cell? ⟨b,0,none⟩ = some (.int .i64 c)) (h1 : w.cell? ⟨b,1,none⟩ = some (.int .i64 d)) :
  Calls Try.prog 61 #[.slice (some ⟨b,0,none⟩) 2 cap] w fun e w'=>e = .returned (.int .i64 (if c = 0 then d else c)) ∧ w = w':=by
 go_enter Try.func61,Try.ntmps61
 go_wp2
 go_loop [8] (fun i=>∃ k : Nat,i = .int .i64 (k : Int) ∧ k ≤ 2 ∧ Hid (1 ≤ k → c = 0) ∧ Hid (2 ≤ k → d = 0)) (fun i=>2 - (intOf i).toNat)
 case atStart=>exact ⟨0,rfl,by omega,fun h=>by omega,fun h=>by omega⟩
 case round =>
  obtain ⟨k,rfl,hk,H1,H2⟩:=hrel
  by_cases k0 : k = 0
  ·subst k0
   by_cases hc : c = 0
   ·subst hc
    go_wp2
    go_round
    case rel=>exact ⟨1,by go_num,by omega,fun _=>by first|rfl|trivial,fun h=>by omega⟩
    case measure=>simp [intOf]
   ·go_wp2
    go_ret
    exact ⟨by simp,rfl⟩
  ·by_cases k1 : k = 1
   ·subst k1
    have hc : c = 0:=H1.out (by omega)
    subst hc
    by_cases hd : d = 0
    ·subst hd
     go_wp2
     go_round
     case rel=>exact ⟨2,by go_num,by omega,fun _=>by first|rfl|trivial,fun _=>by first|rfl|trivial⟩
     case measure=>simp [intOf]
    ·go_wp2
     go_ret
     exact ⟨by simp,rfl⟩
   ·obtain rfl : k = 2:=by omega
    have hc : c = 0:=H1.out (by omega)
    have hd : d = 0:=H2.out (by omega)
    subst hc hd
    go_wp2
    go_ret
    exact ⟨by simp,rfl⟩
theorem cf_cmp (v : Value) (v' : Value) (w : World) : (callFunc 63 #[v,v']).run Try.prog w = .ok (.enter 63 #[v,v']) w:=enters_of Try.func63 (by kernel_rfl) rfl _ _
theorem cf_cmpL (v : Value) (v' : Value) (w : World) : (callFunc 62 #[v,v']).run Try.prog w = .ok (.enter 62 #[v,v']) w:=enters_of Try.func62 (by kernel_rfl) rfl _ _
theorem cf_or (v : Value) (w : World) : (callFunc 61 #[v]).run Try.prog w = .ok (.enter 61 #[v]) w:=enters_of Try.func61 (by kernel_rfl) rfl _ _
theorem cmp_neg (x y : Int) : (Lib.compareInt x y < 0) ↔ x < y:=by
 unfold Lib.compareInt
 split <;> (try split) <;> omega
theorem cmp_zero (x y : Int) : (Lib.compareInt x y = 0) ↔ x = y:=by
 unfold Lib.compareInt
 split <;> (try split) <;> omega
def cfR (a b : Sn) : Int:=if Lib.compareInt b.2 a.2 = 0 then Lib.compareInt a.1 b.1 else Lib.compareInt b.2 a.2
theorem cfR_lt (a b : Sn) : ltOf cfR a b = true ↔ Pf.bef a b = true:=by
 unfold ltOf cfR Pf.bef
 rw [decide_eq_true_iff]
 simp only [Bool.or_eq_true,Bool.and_eq_true,decide_eq_true_eq]
 by_cases h : Lib.compareInt b.2 a.2 = 0
 ·rw [if_pos h,cmp_neg]
  rw [cmp_zero] at h
  omega
 ·rw [if_neg h,cmp_neg]
  rw [cmp_zero] at h
  omega
theorem swoR : Sort.SWO (ltOf cfR) where
 irrefl x:=by
  rw [Bool.eq_false_iff]
  intro h
  have:=(cfR_lt x x).1 h
  exact Pf.bef_asymm this this
 trans x y z h1 h2:=(cfR_lt x z).2 (Pf.bef_trans ((cfR_lt x y).1 h1) ((cfR_lt y z).1 h2))
 ntrans x y z h1 h2:=by
  rw [Bool.eq_false_iff] at *
  intro h
  have h:=(cfR_lt x z).1 h
  have h1 : ¬ Pf.bef x y = true:=fun k=>h1 ((cfR_lt x y).2 k)
  have h2 : ¬ Pf.bef y z = true:=fun k=>h2 ((cfR_lt y z).2 k)
  unfold Pf.bef at h h1 h2
  simp only [Bool.or_eq_true,Bool.and_eq_true,decide_eq_true_eq] at h h1 h2
  omega
set_option maxHeartbeats 1000000 in
theorem rcmp_any (a b : Sn) (w : World) : Calls Try.prog 60 #[.agg (evL a).toArray,.agg (evL b).toArray] w fun e w'=>e = .returned (.int .i64 (cfR a b)) ∧ ∃ q o1 o2 o3,w' = (((w.drewN q).alloc o1).alloc o2).alloc o3:=by
 obtain ⟨a0,a1⟩:=a
 obtain ⟨b0,b1⟩:=b
 have HC1:=fun W=>compareL_any b1 a1 W
 have HC2:=fun W=>compare_any a0 b0 W
 unfold cfR evL
 dsimp only
 obtain ⟨c,hc⟩ : ∃ c,Lib.compareInt b1 a1 = c:=⟨_,rfl⟩
 obtain ⟨d,hd⟩ : ∃ d,Lib.compareInt a0 b0 = d:=⟨_,rfl⟩
 rw [hc] at HC1 ⊢
 rw [hd] at HC2 ⊢
 have HH1:=hid HC1
 have HH2:=hid HC2
 have HOr:=hid (fun W=>or_any c d (w.heap.size + 1 + 1) 2 W)
 obtain ⟨r,hr⟩ : ∃ r,(if c = 0 then d else c) = r:=⟨_,rfl⟩
 rw [hr] at HOr ⊢
 clear hc hd HC1 HC2 hr
 go_enter Try.func60,Try.ntmps60
 go_wp2
 go_region_law (first
  | (refine Kit.step_call1 rfl 61 (.tmp 15) 71 rfl (.slice (some ⟨w.heap.size + 1 + 1,0,none⟩) 2 2) (by first|with_reducible rfl|(simp [go_sem];done)|rfl) (cf_or _ _) _ (HOr.out _ (by simp;rw [World.cell?_alloc_at _ _ _ _ (by simp)];rfl) (by simp;rw [World.cell?_alloc_at _ _ _ _ (by simp)];rfl)) ?_;rintro e w3 ⟨rfl,rfl⟩;refine ⟨_,rfl,?_⟩)
  | (refine Kit.step_call2 rfl 62 (.tmp 6) (.tmp 8) 2 2 rfl (.int .i64 b1) (.int .i64 a1) (by first|with_reducible rfl|(simp [go_sem];done)|rfl) (by first|with_reducible rfl|(simp [go_sem];done)|rfl) (cf_cmpL _ _ _) _ (HH1.out _) ?_;rintro e w3 ⟨rfl,rfl⟩;refine ⟨_,rfl,?_⟩)
  | (refine Kit.step_call2 rfl 63 (.tmp 11) (.tmp 13) 3 3 rfl (.int .i64 a0) (.int .i64 b0) (by first|with_reducible rfl|(simp [go_sem];done)|rfl) (by first|with_reducible rfl|(simp [go_sem];done)|rfl) (cf_cmp _ _ _) _ (HH2.out _) ?_;rintro e w3 ⟨rfl,rfl⟩;refine ⟨_,rfl,?_⟩))
 all_goals
  go_wp2
  go_ret
  exact ⟨rfl,_,_,_,_,rfl⟩
end Go.Proofs.Ytfphiomhlhpphaa
namespace Go.Proofs.Ytfphiomhlhpphaa
open Go Go.RowKit
open Pf (Site Sn ix addk alt keys)
theorem put_own {w : World} {base blk n cap sz : Nat} {e : TypeId} {xs : List Value} (h : w.ownsRow base e sz (.slice (some ⟨blk,0,none⟩) n cap) n xs) (m : Nat) (A : Array Value) (os : Array Obj) (hA : A.size = n * sz) :
  (Sort.grow (Sort.putRow id (Sort.ahead w m) blk 0 A) os).ownsRow base e sz (.slice (some ⟨blk,0,none⟩) n cap) n A.toList:=by
 refine ⟨by simp [hA],.inr ?_⟩
 rcases h.2 with ⟨h2,-⟩|⟨g',cap',cur,hv,hg,hh,h1,h2,h3,h4⟩
 ·cases h2
 ·obtain ⟨e1,-,rfl⟩:=Value.slice.inj hv
  obtain rfl : blk = g':=by simpa using e1
  have hlt:=(Array.getElem?_eq_some_iff.1 hh).1
  have hnc : n * sz ≤ cap * sz:=Nat.mul_le_mul_right _ h1
  refine ⟨blk,cap,Sort.putCells id 0 A cur,rfl,hg,?_,h1,h2,by simp [Sort.putCells,h3],?_⟩
  ·rw [Sort.heap_grow_old _ _ (by rw [size_putRow];exact hlt)]
   unfold Sort.putRow Sort.mapBlock
   simp only [Array.getElem?_modify]
   rw [if_pos trivial]
   show Option.map _ w.heap[blk]? = _
   rw [hh]
   rfl
  ·apply List.ext_getElem?
   intro k
   rw [List.getElem?_take]
   by_cases hk : k < n * sz
   ·rw [if_pos hk]
    have hk2 : k < A.size:=by omega
    have hk3 : k < cur.size:=by rw [h3];omega
    rw [Array.getElem?_toList]
    unfold Sort.putCells
    rw [Array.getElem?_mapIdx,Array.getElem?_eq_getElem hk3,Option.map_some,if_pos ⟨by omega,by omega⟩,Array.getElem?_toList,Array.getElem?_eq_getElem hk2,Nat.sub_zero,getElem!_pos A k hk2]
    rfl
   ·rw [if_neg hk,Array.getElem?_toList,Array.getElem?_eq_none (by omega)]
theorem put_chg {w : World} {blk : Nat} (m : Nat) (A : Array Value) (os : Array Obj) : Chg (fun i=>i = blk) w (Sort.grow (Sort.putRow id (Sort.ahead w m) blk 0 A) os):=by
 refine ⟨rfl,rfl,rfl,?_,fun k hk hne=>?_⟩
 ·rw [Sort.size_grow,size_putRow]
  show w.heap.size ≤ w.heap.size + _
  omega
 ·rw [Sort.heap_grow_old _ _ (by rw [size_putRow];exact hk)]
  unfold Sort.putRow Sort.mapBlock
  simp only [Array.getElem?_modify]
  rw [if_neg (fun e=>hne e.symm)]
  rfl
theorem flat_list {α : Type} [Inhabited α] {enc : α → List Value} {s : Nat} (hs : ∀ x,(enc x).length = s) (h0 : 0 < s) (d : Array α) : (Sort.flatK enc s d).toList = d.toList.flatMap enc:=by
 apply List.ext_getElem?
 intro t
 by_cases ht : t < d.size * s
 ·have hd : t / s < d.size:=(Nat.div_lt_iff_lt_mul h0).2 ht
  have hm : t % s < s:=Nat.mod_lt _ h0
  have h1:=Kit.flat_at hs (l:=d.toList) (k:=t / s) (x:=d[t / s]) (by simp [hd]) (t % s) hm
  rw [show t / s * s + t % s = t by rw [Nat.mul_comm];exact Nat.div_add_mod t s] at h1
  rw [h1,Array.getElem?_toList,Array.getElem?_eq_getElem (by rw [Sort.size_flatK];exact ht),← getElem!_pos,Sort.get_flatK _ _ _ _ ht,getElem!_pos d _ hd,getElem!_pos (enc d[t / s]) (t % s) (by rw [hs];exact hm),List.getElem?_eq_getElem]
 ·rw [List.getElem?_eq_none (by rw [Array.length_toList,Sort.size_flatK];omega),List.getElem?_eq_none (by rw [Kit.flat_len hs,Array.length_toList];omega)]
def RwR (w : World) (base : Nat) (v : Value) (S : List Sn) : Prop:=w.ownsRow base 87 2 v S.length (S.flatMap evL)
theorem sortR_any {w : World} {base : Nat} {v : Value} {S : List Sn} (h : RwR w base v S) (hn : (keys S).Nodup) (hl : S.length ≤ 140737488355328) :
  Calls Try.prog 59 #[v,.func (.func 60) #[] #[]] w fun e w'=>e = .returned (.tuple #[]) ∧ RwR w' base v (Pf.srt S) ∧ Chg (fun i=>v.ownBlock = some i) w w':=by
 rcases h.2 with ⟨rfl,h0⟩|⟨g,cap,cur,rfl,hg,hh,hc1,hc2,hc3,ht⟩
 ·refine (AnyF.slices_SortFunc_none Sh.sort none 0 _ w).mono ?_
  rintro e w' ⟨rfl,rfl⟩
  obtain rfl:=List.length_eq_zero_iff.1 h0
  exact ⟨rfl,h,Chg.refl _ _⟩
 ·have hfl : (Sort.flatK evL 2 S.toArray).toList = S.flatMap evL:=flat_list evL_len (by omega) _
  have hH : Sort.HoldsK evL 2 w g 0 S.toArray:=by
   intro j hj
   rw [Sort.size_flatK] at hj
   have hj2 : j < S.length * 2:=by simpa using hj
   have hx : (Sort.flatK evL 2 S.toArray)[j]? = some ((Sort.flatK evL 2 S.toArray)[j]!):=by rw [getElem!_pos _ j (by rw [Sort.size_flatK];exact hj),Array.getElem?_eq_getElem]
   have hcur : cur[j]? = some ((Sort.flatK evL 2 S.toArray)[j]!):=by
    have h3 : (S.flatMap evL)[j]? = some ((Sort.flatK evL 2 S.toArray)[j]!):=by rw [← hfl,Array.getElem?_toList,hx]
    rw [← ht,List.getElem?_take_of_lt hj2] at h3
    simpa using h3
   rw [Nat.zero_add]
   exact ⟨by simp [World.cell?,hh,hcur],by simp [World.frozen?,hh]⟩
  have hcmp : CmpLays Try.prog 60 #[] evL 2 cfR g 0 S.toArray.size w:=by
   intro m os dk _ x y
   refine (rcmp_any x y _).mono ?_
   rintro e w' ⟨rfl,q,o1,o2,o3,rfl⟩
   refine ⟨rfl,q,#[o1] ++ #[o2] ++ #[o3],?_⟩
   rw [Sort.alloc_eq_grow,Sort.alloc_eq_grow,Sort.alloc_eq_grow,Sort.grow_grow,Sort.grow_grow,Array.append_assoc]
  have hcon:=AnyQ.slices_SortFunc Sh.sort 2 Try.isAgg87 Try.sizeOf87 evL evL_len (by intro x v hv;simp [evL] at hv;rcases hv with rfl|rfl <;> rfl) cfR swoR 60 #[] g 0 cap S.toArray w
   (enters_of Try.func60 (by kernel_rfl) rfl) hcmp hH (Array.getElem?_eq_some_iff.1 hh).1 (by simp;omega)
  change Calls Try.prog 59 _ _ _ at hcon
  refine hcon.mono ?_
  rintro e w' ⟨rfl,d',n,os,⟨p1,-,p2⟩,hso,rfl⟩
  have hds : d'.size = S.length:=by simpa using p1
  have e1 : (d'.extract 0 S.toArray.size) = d':=by rw [← p1];simp
  have e2 : (S.toArray.extract 0 S.toArray.size) = S.toArray:=by simp
  rw [e1,e2] at p2
  have hperm : d'.toList.Perm S:=by simpa using p2
  have hkd : (keys d'.toList).Nodup:=((hperm.map _).nodup_iff).2 hn
  have hord : Pf.Ord d'.toList:=by
   unfold Pf.Ord
   rw [List.pairwise_iff_getElem]
   intro i j hi hj hij
   simp only [Array.length_toList] at hi hj
   have h3:=hso i j (Nat.zero_le _) hij (by simp;omega)
   rw [getElem!_pos d' j hj,getElem!_pos d' i hi,Bool.eq_false_iff] at h3
   have h4 : ¬ Pf.bef d'[j] d'[i] = true:=fun e=>h3 ((cfR_lt _ _).2 e)
   have hne : d'[i].1 ≠ d'[j].1:=by
    unfold keys at hkd
    rw [List.nodup_iff_pairwise_ne,List.pairwise_map,List.pairwise_iff_getElem] at hkd
    have:=hkd i j (by simpa using hi) (by simpa using hj) hij
    simpa using this
   simp only [Array.getElem_toList]
   exact (Pf.bef_total hne).resolve_right h4
  have hd : d'.toList = Pf.srt S:=Pf.ord_det hord (Pf.srt_ord hn) (hperm.trans (Pf.srt_perm S).symm)
  have hfl2 : (Sort.flatK evL 2 d').toList = d'.toList.flatMap evL:=flat_list evL_len (by omega) _
  have o1:=put_own (show w.ownsRow base 87 2 (.slice (some ⟨g,0,none⟩) S.length cap) S.length (S.flatMap evL) from h) n (Sort.flatK evL 2 d') os (by rw [Sort.size_flatK,hds])
  rw [hfl2,hd] at o1
  refine ⟨rfl,?_,(put_chg n (Sort.flatK evL 2 d') os).mono (fun i _ e=>by rw [e];rfl)⟩
  unfold RwR
  rw [Pf.srt_len]
  exact o1
end Go.Proofs.Ytfphiomhlhpphaa
namespace Go.Proofs.Ytfphiomhlhpphaa
open Go Go.RowKit
open Pf (Site Sn ix addk alt keys)
set_option maxRecDepth 100000
set_option maxHeartbeats 2000000
theorem infoRow : (Try.prog.info? 87).map (fun i=>(i.zero,i.size,i.bytes)) = some (some (.agg #[.int .i64 0,.int .i64 0]),2,16):=by kernel_rfl
def atL (least : Int) (x : Sn) : Bool:=decide (least ≤ x.2)
theorem filter_snoc {α : Type} (f : α → Bool) (l : List α) (x : α) : (l ++ [x]).filter f = l.filter f ++ if f x = true then [x] else []:=by
 rw [List.filter_append]
 congr 1
 rw [List.filter_cons,List.filter_nil]
theorem RwR.below {w w' : World} {base : Nat} {v : Value} {S : List Sn} (h : RwR w base v S) (hb : Below w.heap.size w w') : RwR w' base v S:=Kit.owns_below h hb (Nat.le_refl _)
theorem own_form3 {w : World} {base : Nat} {v : Value} {S : List Sn} (h : RwR w base v S) : ∃ a n c,v = .slice a n c:=by
 obtain ⟨a,c,e⟩:=own_form h
 exact ⟨a,_,c,e⟩
def RkPost (w : World) (L : List Sn) (least : Int) (e : Ending) (w' : World) : Prop:=∃ v,e = .returned v ∧ RwR w' w.heap.size v (Pf.srt (L.filter (atL least))) ∧ Below w.heap.size w w'
theorem ranked_map {w : World} {b : Nat} {L : List Sn} (h : MapL TI vI w b L) (hl : L.length ≤ 2932031007340) (least : Int) : Calls Try.prog 45 #[.map (some b),.int .i64 least] w (RkPost w L least):=by
 obtain ⟨i0,hi,hz0,hz1,hz2⟩:=info_parts infoRow
 have HMp:=hid h
 have HL:=hid hl
 have HN:=hid h.nd
 have HBs:=hid h.lt
 clear h hl
 go_enter Try.func45,Try.ntmps45
 go_wp2_with (at_range;refine wpList_range_L _ rfl _ 73 rfl 2 ti uE rfl HMp.out ?_;intro w0 hrg0 hb0 hs0)
 have HR0:=hid hrg0
 have HB0:=hid hb0
 clear hrg0 hb0 hs0
 go_frame
 go_loopw [5] (fun v wr=>∃ done todo : List Sn,Hid (RangeL TI vI wr b w.heap.size L done todo ∧ RwR wr (w.heap.size + 1) v (done.filter (atL least)) ∧ Below w.heap.size w wr)) (fun _ wr=>wr.rangeLeft b w.heap.size)
 case atStart=>exact ⟨[],L,HR0.out,⟨rfl,.inl ⟨rfl,rfl⟩⟩,HB0.out⟩
 case round =>
  clear HR0 HB0
  obtain ⟨done,todo,HI⟩:=hrel
  obtain ⟨va,vn,vc,hv⟩:=own_form3 HI.out.2.1
  subst hv
  go_wp2_with (at_next;refine wpList_next_L _ rfl _ rfl ti rfl HI.out.1 ?_ ?_)
  ·intro hp
   have HP:=hid hp
   clear hp
   have HS:=hid (sortR_any HI.out.2.1 (Pf.nodup_filter (((HP.out.map _).nodup_iff).1 HN.out) _) (by have:=HP.out.length_eq;have:=List.length_filter_le (atL least) done;have:=HL.out;omega))
   go_wp2_with (go_at_call 59;refine HS.out.mono ?_;rintro e w2 ⟨rfl,hs,hc⟩;have HQ:=hid (And.intro hs hc);clear hs hc)
   go_ret
   have e : Pf.srt (done.filter (atL least)) = Pf.srt (L.filter (atL least)):=Pf.srt_det (Pf.nodup_filter (((HP.out.map _).nodup_iff).1 HN.out) _) (HP.out.symm.filter _)
   refine ⟨_,rfl,?_,?_⟩
   ·rw [← e]
    exact Kit.owns_mono HQ.out.1 (Nat.le_succ _)
   ·exact HI.out.2.2.trans (HQ.out.2.to_below (B:=w.heap.size) (fun k e=>Nat.le_of_succ_le (Kit.own_base HI.out.2.1 k e)) HI.out.2.2.size)
  ·intro k n todo' w1 hx hrg1 hlt hg1 hs1 hen
   have hrs:=hrg1.lts
   have HRg:=hid hrg1
   have HLt:=hid hlt
   have hch : Chg (fun i=>i = w.heap.size) wr w1:=Chg.of_grown hg1 (fun k e=>(Option.some.inj e).symm)
   have HRw : Hid (RwR w1 (w.heap.size + 1) (.slice va vn vc) (done.filter (atL least))):=owns_chg HI.out.2.1 hch (fun k e e2=>by have:=Kit.own_base HI.out.2.1 k e;omega)
   have HBw : Hid (Below w.heap.size w w1):=HI.out.2.2.trans (hch.to_below (B:=w.heap.size) (fun k e=>by omega) HI.out.2.2.size)
   have HZ:=hid hrs.2
   have HDn : Hid (done.length ≤ L.length):=by
    obtain ⟨D,left,cnt,-,-,hp,-⟩:=HI.out.1
    have:=hp.length_eq
    rw [List.length_append] at this
    show done.length ≤ L.length
    omega
   unfold TI vI at hen
   dsimp only at hen
   clear hs1 hlt hrg1 hg1 hch hrs hx HI
   by_cases hq : least ≤ n
   ·have HF : Hid (((done ++ [(k,n)]).filter (atL least)) = done.filter (atL least) ++ [(k,n)]):=by show _ = _;rw [filter_snoc,if_pos (show atL least (k,n) = true from decide_eq_true hq)]
    have hq' : decide (least ≤ n) = true:=decide_eq_true hq
    have HLn : Hid ((done.filter (atL least)).length ≤ done.length):=List.length_filter_le _ _
    have HNW:=hid (fun x y : Int=>news_of w1 [Value.int .i64 x,Value.int .i64 y] 87)
    have HOw : Hid ((w1.alloc (.cells #[Value.int .i64 k,Value.int .i64 n] 87)).ownsRow (w.heap.size + 1) 87 2 (.slice va vn vc) (done.filter (atL least)).length ((done.filter (atL least)).flatMap evL)):=Kit.owns_below HRw.out ((Below.refl _ _).alloc (Nat.le_refl _) _) (Nat.le_refl _)
    clear hq
    go_wp2_with (at_builtin;refine wpList_append_own _ rfl (.tmp 18) (.tmp 22) 82 rfl (w.heap.size + 1) 87 i0 _ 2 16 Try.underlying82 hi hz0 hz1 hz2 rfl (by decide) (.slice va vn vc) _ _ rfl HOw.out ⟨w1.heap.size,0,none⟩ 1 1 [.int .i64 k,.int .i64 n] rfl rfl (HNW.out k n) (by intro u hu;simp at hu;rcases hu with rfl|rfl <;> rfl) (by have:=HLn.out;have:=HDn.out;have:=HL.out;unfold maxLen;omega) (by have:=HLn.out;have:=HDn.out;have:=HL.out;omega) (by have:=HZ.out;simp only [World.size_alloc];omega) ?_;intro v' w2 ho2 hg2 _;have HO2:=hid ho2;have HG2:=hid hg2;clear ho2 hg2)
    have hbw : Below w1.heap.size w1 (w1.alloc (.cells #[Value.int .i64 k,Value.int .i64 n] 87)):=(Below.refl _ _).alloc (Nat.le_refl _) _
    have hc2 : Chg (fun i=>w.heap.size + 1 ≤ i) w1 w2:=(Chg.of_below hbw).grown HG2.out (fun j e=>.inl (Kit.own_base HRw.out j e))
    have HR2 : Hid (RangeL TI vI w2 b w.heap.size L (done ++ [(k,n)]) todo'):=HRg.out.chg hc2 (fun e=>by have:=HBs.out;omega) (by omega)
    have HL2 : Hid (w2.rangeLeft b w.heap.size = w1.rangeLeft b w.heap.size):=rangeLeft_keep (hc2.block _ HRg.out.lts.1 (fun e=>by have:=HBs.out;omega)) (hc2.block _ HRg.out.lts.2 (by omega))
    have HB2 : Hid (Below w.heap.size w w2):=HBw.out.trans (hc2.to_below (B:=w.heap.size) (fun k e=>by omega) HBw.out.size)
    clear hbw hc2
    go_roundw
    case rel =>
     refine ⟨_,todo',HR2.out,?_,HB2.out⟩
     rw [HF.out]
     unfold RwR
     rw [List.length_append,List.flatMap_append]
     exact HO2.out
    case measure=>rw [HL2.out];exact HLt.out
   ·have HF : Hid (((done ++ [(k,n)]).filter (atL least)) = done.filter (atL least)):=by show _ = _;rw [filter_snoc,if_neg (by simpa [atL] using hq),List.append_nil]
    have hq' : decide (least ≤ n) = false:=decide_eq_false hq
    clear hq
    go_wp2
    go_roundw
    case rel=>exact ⟨_,todo',HRg.out,by rw [HF.out];exact HRw.out,HBw.out⟩
    case measure=>exact HLt.out
theorem ranked_nil (w : World) (least : Int) : Calls Try.prog 45 #[.map none,.int .i64 least] w (RkPost w [] least):=by
 have hrg:=run_range_nilMap (P:=Try.prog) w 73 _ _ uE
 have hnx : ∀ ty,(Instr.next (.pointer (some ⟨w.heap.size,0,none⟩)) false ty).run Try.prog (w.alloc (.mapIter none 0 #[] 0)) = _:=fun ty=>run_next_nilMap _ ty 0 0 #[]
 have HS:=hid (fun W=>AnyF.slices_SortFunc_none Sh.sort none 0 (.func (.func 60) #[] #[]) W)
 go_enter Try.func45,Try.ntmps45
 go_wp2
 refine wp_loop_rounds 1 ?_
 rw [rounds_succ]
 go_wp2_with (go_at_call 59;refine (show Calls Try.prog 59 _ _ _ from HS.out _).mono ?_;rintro e w2 ⟨rfl,rfl⟩)
 go_ret
 exact ⟨_,rfl,⟨rfl,.inl ⟨rfl,rfl⟩⟩,(Below.refl _ _).alloc (Nat.le_refl _) _⟩
theorem ranked_any {w : World} {mo : Option Nat} {L : List Sn} (h : MO TI vI w mo L) (hl : L.length ≤ 2932031007340) (least : Int) : Calls Try.prog 45 #[.map mo,.int .i64 least] w (RkPost w L least):=by
 rcases h with ⟨b,rfl,h⟩|⟨rfl,rfl⟩
 ·exact ranked_map h hl least
 ·exact ranked_nil w least
end Go.Proofs.Ytfphiomhlhpphaa
