/- Own texts for the claim, part 5. -/
import Derived.Test.YtfphiomhlhpphaaZE4
import Derived.Deep.Upon
namespace Go.Proofs.Ytfphiomhlhpphaa
open Go Go.RowKit
open Pf (Site Sn look ix addk alt keys)
set_option maxRecDepth 100000
set_option maxHeartbeats 2000000
def stV (s : Site) : Value:=.agg #[.int .i64 s.1,.int .i64 s.2]
theorem site_or (x s : Site) : x = s ∨ ¬ x.1 = s.1 ∨ (x.1 = s.1 ∧ ¬ x.2 = s.2):=by
 by_cases h1 : x.1 = s.1
 ·by_cases h2 : x.2 = s.2
  ·exact .inl (Prod.ext h1 h2)
  ·exact .inr (.inr ⟨h1,h2⟩)
 ·exact .inr (.inl h1)
theorem Chg.trans' {S : Nat → Prop} {a b c : World} (h : Chg S b c) (hb : Below a.heap.size a b) : Chg S a c :=
 ⟨h.os.trans hb.os,h.tape.trans hb.tape,h.output.trans hb.output,Nat.le_trans hb.size h.size,fun k hk hs=>(h.block k (Nat.lt_of_lt_of_le hk hb.size) hs).trans (hb.block k hk)⟩
def JuPost (w : World) (base : Nat) (r : PR) (s : Site) (e : Ending) (w' : World) : Prop :=
 ∃ v',e = .returned (.int .i64 ((ix r.J s : Nat) : Int)) ∧ RefR w' base { r with jv:=v',J:=addk 0 r.J s } ∧ Chg (Own1 r.pb r.jv) w w' ∧ Fresh w r.jv v'
theorem jump_any {w : World} {base : Nat} {r : PR} (h : RefR w base r) (hn : r.J.length ≤ 2932031007340) (s : Site) : Calls Try.prog 54 #[.pointer (some ⟨r.pb,0,none⟩),stV s] w (JuPost w base r s):=by
 obtain ⟨i0,hi,hz0,hz1,hz2⟩:=info_parts infoJu
 obtain ⟨w1,hw1⟩ : ∃ w1,w1 = w.alloc (.cells #[.int .i64 s.1,.int .i64 s.2] 29):=⟨_,rfl⟩
 have hb1 : Below w.heap.size w w1:=by rw [hw1];exact (Below.refl _ _).alloc (Nat.le_refl _) _
 have bx : BX w1 w.heap.size #[.int .i64 s.1,.int .i64 s.2] 29:=by rw [hw1];exact BX.new w _ _
 have h1:=h.below hb1
 have hbase : base ≤ w1.heap.size:=Nat.le_trans h1.low (Nat.le_of_lt h1.box.sz)
 have HR:=hid h1
 have HBx:=hid bx
 have HB1:=hid hb1
 have HW1:=hid hw1
 obtain ⟨ea,ec,hev⟩:=own_form h.jr
 have HIx:=hid (fun k x (a : k ≤ ix r.J s) (b : r.J[k]? = some x) (c : x.1 = s)=>Pf.ix_at a b c)
 have HSt:=hid (fun k x (a : k ≤ ix r.J s) (b : r.J[k]? = some x) (c : ¬ x.1 = s)=>Pf.ix_step a b c)
 have HLe:=hid (Pf.ix_le r.J s)
 obtain ⟨n,hnn⟩ : ∃ n,r.J.length = n:=⟨_,rfl⟩
 have HNN:=hid hnn
 rw [hnn] at hev hn
 have HEv:=hid hev
 have HOw:=hid (fun X (b : Below w1.heap.size w1 X)=>Kit.owns_below h1.jr b (Nat.le_refl _))
 rw [hnn,hev] at HOw
 have HCl:=hid (fun X (b : Below w1.heap.size w1 X)=>(h1.below b).cells.2.1)
 rw [hev] at HCl
 have HFr:=hid (fun X (b : Below w1.heap.size w1 X)=>(h1.below b).box.frozen 1)
 have hpb:=h1.box.sz
 have hsb:=bx.sz
 have HBs:=hid hbase
 unfold stV
 clear hev hnn h h1 bx hb1 hw1
 go_enter Try.func54,Try.ntmps54
 go_wp2
 rw [← HW1.out]
 go_loopw [5] (fun v wr=>∃ k : Nat,v = .int .i64 (k : Int) ∧ k ≤ n ∧ Hid (k ≤ ix r.J s) ∧ Hid (Below w1.heap.size w1 wr)) (fun v _=>n - (intOf v).toNat)
 case atStart=>exact ⟨0,rfl,Nat.zero_le _,Nat.zero_le _,Below.refl _ _⟩
 case round =>
  obtain ⟨k,rfl,hk,HK,HW⟩:=hrel
  have c0:=HCl.out wr HW.out
  have f0:=HFr.out wr HW.out
  have b0 : wr.cell? ⟨w.heap.size,0,none⟩ = some (.int .i64 s.1):=(HBx.out.below HW.out).cell 0
  have b1 : wr.cell? ⟨w.heap.size,1,none⟩ = some (.int .i64 s.2):=(HBx.out.below HW.out).cell 1
  have hwz:=HW.out.size
  have hpw : r.pb < wr.heap.size:=Nat.lt_of_lt_of_le hpb hwz
  have hsw : w.heap.size < wr.heap.size:=Nat.lt_of_lt_of_le hsb hwz
  by_cases hlt : k < n
  ·obtain ⟨x,hx⟩ : ∃ x,r.J[k]? = some x:=⟨_,List.getElem?_eq_getElem (by rw [HNN.out];exact hlt)⟩
   obtain ⟨g,cap,hv,-,hg,hc⟩:=row_at jvL_len (HR.out.below HW.out).jr hx
   have hv2:=HEv.out
   rw [hv,HNN.out] at hv2
   obtain ⟨hea,-,rfl⟩:=Value.slice.inj hv2
   subst hea
   have d0 : wr.cell? ⟨g,k * 3,none⟩ = some (.int .i64 x.1.1):=(hc 0 (by omega)).1
   have d1 : wr.cell? ⟨g,k * 3 + 1,none⟩ = some (.int .i64 x.1.2):=(hc 1 (by omega)).1
   have hki : (k : Int) < (n : Int):=by omega
   have HX:=hid hx
   clear hc hv hv2 hx
   rcases site_or x.1 s with he|hne
   ·have HI:=hid (HIx.out k x HK.out HX.out he)
    rw [he] at d0 d1
    clear he
    go_wp2
    go_quiet (fail)
    go_wp2
    go_ret
    have hbq:=belows_drewN HW.out nq
    have hbw:=belows HB1.out hbq HB1.out.size
    exact ⟨_,by rw [HI.out];rfl,by rw [Pf.addk_here (by rw [HI.out,HNN.out];exact hlt)];exact HR.out.below hbq,Chg.of_below hbw,.inl rfl⟩
   ·have HS : Hid (k + 1 ≤ ix r.J s):=HSt.out k x HK.out HX.out (by rintro rfl;rcases hne with h|⟨-,h⟩ <;> exact h rfl)
    rcases hne with hd|⟨hd,hd2⟩
    ·have hd1 : (x.1.1 == s.1) = false:=by simpa using hd
     clear hd
     go_wp2
     go_quiet (fail)
     go_wp2
     go_roundw
     case rel=>exact ⟨k + 1,by go_num,by omega,HS,belows_drewN HW.out nq⟩
     case measure=>simp [intOf];omega
    ·have hd1 : (x.1.1 == s.1) = true:=by simpa using hd
     have hd3 : (x.1.2 == s.2) = false:=by simpa using hd2
     clear hd hd2
     go_wp2
     go_quiet (fail)
     go_wp2
     go_roundw
     case rel=>exact ⟨k + 1,by go_num,by omega,HS,belows_drewN HW.out nq⟩
     case measure=>simp [intOf];omega
  ·obtain rfl : k = n:=by omega
   have HA : Hid (addk 0 r.J s = r.J ++ [(s,0)]):=Pf.addk_new (by rw [HNN.out];exact HK.out)
   have HI : Hid (ix r.J s = k):=Nat.le_antisymm (by have:=HLe.out;rwa [HNN.out] at this) HK.out
   go_upto_region 6 with fail
   go_region_law (refine Kit.step_append_own rfl (.tmp 30) (.tmp 33) 65 rfl base 97 i0 _ 3 24 Try.underlying65 hi hz0 hz1 hz2 rfl (by decide) (.slice ea k ec) k _ rfl (HOw.out _ (by first|exact belows HW.out BLw HW.out.size|(refine HW.out.trans (Below.mono ?_ HW.out.size);exact BLw))) ⟨wr.heap.size,0,none⟩ 1 1 [.int .i64 s.1,.int .i64 s.2,.int .i64 0] rfl rfl (news_of _ _ _) (by intro u hu;simp at hu;rcases hu with rfl|rfl|rfl <;> rfl) (by unfold maxLen;omega) (by omega) (by first|omega|(simp;omega)) ?_;intro v' w3 ho3 hg3 hk3;go_loud (have hcg : Chg (fun i=>r.jv.ownBlock = some i) w1 w3:=Chg.grown (Chg.of_below (belows HW.out BLw HW.out.size)) hg3 (fun j e=>.inl (by rw [HEv.out];exact e));obtain ⟨q0,qf,hR,hC⟩:=HR.out.setJ (J':=addk 0 r.J s) (v':=v') hcg (by rw [HA.out,List.length_append,List.flatMap_append,HNN.out];exact ho3);have HR3:=hid hR;have HC3:=hid (hC.trans' HB1.out);have HF3 : Hid (Fresh w r.jv v'):=(by (rcases hk3 with e|e);(·exact .inl (by rw [e,HEv.out]));(·exact .inr ⟨_,e,Nat.le_trans HB1.out.size (Nat.le_trans HW.out.size (by simp))⟩));obtain ⟨b2,p2,rfl⟩:=own_form ho3;have z0:=hR.box.cell 1;dsimp only at z0;have hw3:=hcg.size;have q1 : w3.cell? ⟨w.heap.size,0,none⟩ = some (.int .i64 s.1):=(HBx.out.chg hcg (own_unlike_box HR.out.jr HBx.out (by decide))).cell 0;have q2 : w3.cell? ⟨w.heap.size,1,none⟩ = some (.int .i64 s.2):=(HBx.out.chg hcg (own_unlike_box HR.out.jr HBx.out (by decide))).cell 1;rw [HEv.out] at q0;clear ho3 hg3 hk3 hcg hR hC))
   all_goals
    go_wp2
    go_ret
    exact ⟨_,by rw [HI.out];simp [go_sem],HR3.out,HC3.out,HF3.out⟩
def CaPost (w : World) (base : Nat) (r : PR) (s : Site) (e : Ending) (w' : World) : Prop :=
 ∃ v',e = .returned (.int .i64 ((ix r.C s : Nat) : Int)) ∧ RefR w' base { r with cv:=v',C:=addk ce0 r.C s } ∧ Chg (Own1 r.pb r.cv) w w' ∧ Fresh w r.cv v'
theorem calls_any {w : World} {base : Nat} {r : PR} (h : RefR w base r) (hn : r.C.length ≤ 2932031007340) (s : Site) : Calls Try.prog 57 #[.pointer (some ⟨r.pb,0,none⟩),stV s] w (CaPost w base r s):=by
 obtain ⟨i0,hi,hz0,hz1,hz2⟩:=info_parts infoCa
 obtain ⟨w1,hw1⟩ : ∃ w1,w1 = w.alloc (.cells #[.int .i64 s.1,.int .i64 s.2] 29):=⟨_,rfl⟩
 have hb1 : Below w.heap.size w w1:=by rw [hw1];exact (Below.refl _ _).alloc (Nat.le_refl _) _
 have bx : BX w1 w.heap.size #[.int .i64 s.1,.int .i64 s.2] 29:=by rw [hw1];exact BX.new w _ _
 have h1:=h.below hb1
 have hbase : base ≤ w1.heap.size:=Nat.le_trans h1.low (Nat.le_of_lt h1.box.sz)
 have HR:=hid h1
 have HBx:=hid bx
 have HB1:=hid hb1
 have HW1:=hid hw1
 obtain ⟨ea,ec,hev⟩:=own_form h.cr
 have HIx:=hid (fun k x (a : k ≤ ix r.C s) (b : r.C[k]? = some x) (c : x.1 = s)=>Pf.ix_at a b c)
 have HSt:=hid (fun k x (a : k ≤ ix r.C s) (b : r.C[k]? = some x) (c : ¬ x.1 = s)=>Pf.ix_step a b c)
 have HLe:=hid (Pf.ix_le r.C s)
 obtain ⟨n,hnn⟩ : ∃ n,r.C.length = n:=⟨_,rfl⟩
 have HNN:=hid hnn
 rw [hnn] at hev hn
 have HEv:=hid hev
 have HOw:=hid (fun X (b : Below w1.heap.size w1 X)=>Kit.owns_below h1.cr b (Nat.le_refl _))
 rw [hnn,hev] at HOw
 have HCl:=hid (fun X (b : Below w1.heap.size w1 X)=>(h1.below b).cells.2.2)
 rw [hev] at HCl
 have HFr:=hid (fun X (b : Below w1.heap.size w1 X)=>(h1.below b).box.frozen 2)
 have hpb:=h1.box.sz
 have hsb:=bx.sz
 have HBs:=hid hbase
 unfold stV
 clear hev hnn h h1 bx hb1 hw1
 go_enter Try.func57,Try.ntmps57
 go_wp2
 rw [← HW1.out]
 go_loopw [5] (fun v wr=>∃ k : Nat,v = .int .i64 (k : Int) ∧ k ≤ n ∧ Hid (k ≤ ix r.C s) ∧ Hid (Below w1.heap.size w1 wr)) (fun v _=>n - (intOf v).toNat)
 case atStart=>exact ⟨0,rfl,Nat.zero_le _,Nat.zero_le _,Below.refl _ _⟩
 case round =>
  obtain ⟨k,rfl,hk,HK,HW⟩:=hrel
  have c0:=HCl.out wr HW.out
  have f0:=HFr.out wr HW.out
  have b0 : wr.cell? ⟨w.heap.size,0,none⟩ = some (.int .i64 s.1):=(HBx.out.below HW.out).cell 0
  have b1 : wr.cell? ⟨w.heap.size,1,none⟩ = some (.int .i64 s.2):=(HBx.out.below HW.out).cell 1
  have hwz:=HW.out.size
  have hpw : r.pb < wr.heap.size:=Nat.lt_of_lt_of_le hpb hwz
  have hsw : w.heap.size < wr.heap.size:=Nat.lt_of_lt_of_le hsb hwz
  by_cases hlt : k < n
  ·obtain ⟨x,hx⟩ : ∃ x,r.C[k]? = some x:=⟨_,List.getElem?_eq_getElem (by rw [HNN.out];exact hlt)⟩
   obtain ⟨g,cap,hv,-,hg,hc⟩:=row_at cvL_len (HR.out.below HW.out).cr hx
   have hv2:=HEv.out
   rw [hv,HNN.out] at hv2
   obtain ⟨hea,-,rfl⟩:=Value.slice.inj hv2
   subst hea
   have d0 : wr.cell? ⟨g,k * 4,none⟩ = some (.int .i64 x.1.1):=(hc 0 (by omega)).1
   have d1 : wr.cell? ⟨g,k * 4 + 1,none⟩ = some (.int .i64 x.1.2):=(hc 1 (by omega)).1
   have hki : (k : Int) < (n : Int):=by omega
   have HX:=hid hx
   clear hc hv hv2 hx
   rcases site_or x.1 s with he|hne
   ·have HI:=hid (HIx.out k x HK.out HX.out he)
    rw [he] at d0 d1
    clear he
    go_wp2
    go_quiet (fail)
    go_wp2
    go_ret
    have hbq:=belows_drewN HW.out nq
    have hbw:=belows HB1.out hbq HB1.out.size
    exact ⟨_,by rw [HI.out];rfl,by rw [Pf.addk_here (by rw [HI.out,HNN.out];exact hlt)];exact HR.out.below hbq,Chg.of_below hbw,.inl rfl⟩
   ·have HS : Hid (k + 1 ≤ ix r.C s):=HSt.out k x HK.out HX.out (by rintro rfl;rcases hne with h|⟨-,h⟩ <;> exact h rfl)
    rcases hne with hd|⟨hd,hd2⟩
    ·have hd1 : (x.1.1 == s.1) = false:=by simpa using hd
     clear hd
     go_wp2
     go_quiet (fail)
     go_wp2
     go_roundw
     case rel=>exact ⟨k + 1,by go_num,by omega,HS,belows_drewN HW.out nq⟩
     case measure=>simp [intOf];omega
    ·have hd1 : (x.1.1 == s.1) = true:=by simpa using hd
     have hd3 : (x.1.2 == s.2) = false:=by simpa using hd2
     clear hd hd2
     go_wp2
     go_quiet (fail)
     go_wp2
     go_roundw
     case rel=>exact ⟨k + 1,by go_num,by omega,HS,belows_drewN HW.out nq⟩
     case measure=>simp [intOf];omega
  ·obtain rfl : k = n:=by omega
   have HA : Hid (addk ce0 r.C s = r.C ++ [(s,ce0)]):=Pf.addk_new (by rw [HNN.out];exact HK.out)
   have HI : Hid (ix r.C s = k):=Nat.le_antisymm (by have:=HLe.out;rwa [HNN.out] at this) HK.out
   go_upto_region 6 with fail
   go_region_law (refine Kit.step_append_own rfl (.tmp 30) (.tmp 33) 66 rfl base 99 i0 _ 4 48 Try.underlying66 hi hz0 hz1 hz2 rfl (by decide) (.slice ea k ec) k _ rfl (HOw.out _ (by first|exact belows HW.out BLw HW.out.size|(refine HW.out.trans (Below.mono ?_ HW.out.size);exact BLw))) ⟨wr.heap.size,0,none⟩ 1 1 [.int .i64 s.1,.int .i64 s.2,.slice none 0 0,.bool false] rfl rfl (news_of _ _ _) (by intro u hu;simp at hu;rcases hu with rfl|rfl|rfl|rfl <;> rfl) (by unfold maxLen;omega) (by omega) (by first|omega|(simp;omega)) ?_;intro v' w3 ho3 hg3 hk3;go_loud (have hcg : Chg (fun i=>r.cv.ownBlock = some i) w1 w3:=Chg.grown (Chg.of_below (belows HW.out BLw HW.out.size)) hg3 (fun j e=>.inl (by rw [HEv.out];exact e));obtain ⟨q0,qf,hR,hC⟩:=HR.out.setC (C':=addk ce0 r.C s) (v':=v') hcg (by rw [HA.out,List.length_append,List.flatMap_append,HNN.out];exact ho3) (fun x hx=>by (rcases Pf.mem_addk hx with hx|rfl);(·exact owns_chg (HR.out.lr x hx) hcg (own_unlike (HR.out.lr x hx) HR.out.cr (by decide)));(·exact ⟨rfl,.inl ⟨rfl,rfl⟩⟩));have HR3:=hid hR;have HC3:=hid (hC.trans' HB1.out);have HF3 : Hid (Fresh w r.cv v'):=(by (rcases hk3 with e|e);(·exact .inl (by rw [e,HEv.out]));(·exact .inr ⟨_,e,Nat.le_trans HB1.out.size (Nat.le_trans HW.out.size (by simp))⟩));obtain ⟨b2,p2,rfl⟩:=own_form ho3;have z0:=hR.box.cell 2;dsimp only at z0;have hw3:=hcg.size;have q1 : w3.cell? ⟨w.heap.size,0,none⟩ = some (.int .i64 s.1):=(HBx.out.chg hcg (own_unlike_box HR.out.cr HBx.out (by decide))).cell 0;have q2 : w3.cell? ⟨w.heap.size,1,none⟩ = some (.int .i64 s.2):=(HBx.out.chg hcg (own_unlike_box HR.out.cr HBx.out (by decide))).cell 1;rw [HEv.out] at q0;clear ho3 hg3 hk3 hcg hR hC))
   all_goals
    go_wp2
    go_ret
    exact ⟨_,by rw [HI.out];simp [go_sem],HR3.out,HC3.out,HF3.out⟩
end Go.Proofs.Ytfphiomhlhpphaa
namespace Go.Proofs.Ytfphiomhlhpphaa
open Go Go.RowKit
open Pf (Site Sn ix addk alt keys)
set_option maxRecDepth 100000
set_option maxHeartbeats 2000000
section
variable {w : World} {base : Nat} {r : PR}
theorem RefR.putE (h : RefR w base r) {i g n cap : Nat} {f m : Int} (hx : r.E[i]? = some (f,m)) (hv : r.ev = .slice (some ⟨g,0,none⟩) n cap) (u : Int) :
  RefR (w.setCell ⟨g,i * 2 + 1,none⟩ (.int .i64 u)) base { r with E:=r.E.set i (f,u) } ∧ Chg (Own1 r.pb r.ev) w (w.setCell ⟨g,i * 2 + 1,none⟩ (.int .i64 u)):=by
 have hg : r.ev.ownBlock = some g:=by rw [hv];rfl
 have hS : Chg (fun i=>i = g) w (w.setCell ⟨g,i * 2 + 1,none⟩ (.int .i64 u)):=(Chg.refl (fun i=>i = g) w).set (.inl rfl) _
 have he:=h.er
 rw [hv] at he
 obtain ⟨g',cap',hv',-⟩:=row_at evL_len h.er hx
 have hn : n = r.E.length:=by
  rw [hv] at hv'
  exact (Value.slice.inj hv').2.1
 subst hn
 refine ⟨⟨h.box.chg hS (fun e=>own_unlike_box h.er h.box (by decide) (e ▸ hg)),?_,owns_chg h.jr hS (fun k e e2=>own_unlike h.jr h.er (by decide) k e (e2 ▸ hg)),owns_chg h.cr hS (fun k e e2=>own_unlike h.cr h.er (by decide) k e (e2 ▸ hg)),fun x hx=>owns_chg (h.lr x hx) hS (fun k e e2=>own_unlike (h.lr x hx) h.er (by decide) k e (e2 ▸ hg)),h.low⟩,hS.mono (fun k _ e=>.inr (e ▸ hg))⟩
 have h2:=owns_set he (i * 2 + 1) (.int .i64 u)
 rw [← flat_set evL_len (y:=(f,u)) hx (by omega) rfl] at h2
 show World.ownsRow _ base _ 2 r.ev (r.E.set i (f,u)).length _
 rw [hv,List.length_set]
 exact h2
theorem RefR.putJ (h : RefR w base r) {i g n cap : Nat} {s : Site} {m : Int} (hx : r.J[i]? = some (s,m)) (hv : r.jv = .slice (some ⟨g,0,none⟩) n cap) (u : Int) :
  RefR (w.setCell ⟨g,i * 3 + 2,none⟩ (.int .i64 u)) base { r with J:=r.J.set i (s,u) } ∧ Chg (Own1 r.pb r.jv) w (w.setCell ⟨g,i * 3 + 2,none⟩ (.int .i64 u)):=by
 have hg : r.jv.ownBlock = some g:=by rw [hv];rfl
 have hS : Chg (fun i=>i = g) w (w.setCell ⟨g,i * 3 + 2,none⟩ (.int .i64 u)):=(Chg.refl (fun i=>i = g) w).set (.inl rfl) _
 have he:=h.jr
 rw [hv] at he
 obtain ⟨g',cap',hv',-⟩:=row_at jvL_len h.jr hx
 have hn : n = r.J.length:=by
  rw [hv] at hv'
  exact (Value.slice.inj hv').2.1
 subst hn
 refine ⟨⟨h.box.chg hS (fun e=>own_unlike_box h.jr h.box (by decide) (e ▸ hg)),owns_chg h.er hS (fun k e e2=>own_unlike h.er h.jr (by decide) k e (e2 ▸ hg)),?_,owns_chg h.cr hS (fun k e e2=>own_unlike h.cr h.jr (by decide) k e (e2 ▸ hg)),fun x hx=>owns_chg (h.lr x hx) hS (fun k e e2=>own_unlike (h.lr x hx) h.jr (by decide) k e (e2 ▸ hg)),h.low⟩,hS.mono (fun k _ e=>.inr (e ▸ hg))⟩
 have h2:=owns_set he (i * 3 + 2) (.int .i64 u)
 rw [← flat_set jvL_len (y:=(s,u)) hx (by omega) rfl] at h2
 show World.ownsRow _ base _ 3 r.jv (r.J.set i (s,u)).length _
 rw [hv,List.length_set]
 exact h2
end
theorem Own1.trans {a b c : World} {pb : Nat} {v v1 : Value} (h : Chg (Own1 pb v) a b) (hf : Fresh a v v1) (k : Chg (Own1 pb v1) b c) : Chg (Own1 pb v) a c :=
 h.trans k (fun i e=>by
  rcases e with e|e
  ·exact .inl (.inl e)
  ·rcases hf with f|⟨g,f,hg⟩
   ·exact .inl (.inr (by rw [← f];exact e))
   ·rw [f,Option.some.injEq] at e
    exact .inr (e ▸ hg))
def AltPost (w : World) (base : Nat) (r : PR) (f : Int) (e : Ending) (w' : World) : Prop :=
 ∃ v',e = .returned (.int .i64 (Pf.more (Pf.look 0 r.E f) 1)) ∧ RefR w' base { r with ev:=v',E:=alt 0 r.E f (fun y=>Pf.more y 1) } ∧ Chg (Own1 r.pb r.ev) w w' ∧ Fresh w r.ev v'
theorem rEnter_any {w : World} {base : Nat} {r : PR} (h : RefR w base r) (hn : r.E.length ≤ 2932031007340) (f : Int) (hb : Pf.Bd (Pf.look 0 r.E f)) : Calls Try.prog 28 #[.pointer (some ⟨r.pb,0,none⟩),.int .i64 f] w (AltPost w base r f):=by
 have HC:=hid (entry_any h hn f)
 have HM:=hid (fun X=>more_any hb Pf.bd1 X)
 have HAt:=hid (Pf.addk_at (d:=(0 : Int)) r.E f)
 have HAl:=hid (Pf.alt_set (d:=(0 : Int)) r.E f (fun y=>Pf.more y 1))
 obtain ⟨m,hm⟩ : ∃ m,Pf.look 0 r.E f = m:=⟨_,rfl⟩
 obtain ⟨u,hu⟩ : ∃ u,Pf.more m 1 = u:=⟨_,rfl⟩
 have HU : Hid (Pf.more (Pf.look 0 r.E f) 1 = u):=by show _ = _;rw [hm];exact hu
 rw [hm] at HM HAt HAl
 rw [hu] at HM
 rw [hu] at HAl
 clear h hn hb hm hu
 go_enter Try.func28,Try.ntmps28
 go_upto_region 2 with (go_at_call 52;go_loud (refine HC.out.mono ?_;rintro e w1 ⟨ev1,rfl,h1,hc1,hf1⟩;have H1:=hid h1;have HC1:=hid hc1;have HF1:=hid hf1;clear h1 hc1 hf1))
 obtain ⟨i,hi⟩ : ∃ i,ix r.E f = i:=⟨_,rfl⟩
 rw [hi] at HAt HAl ⊢
 obtain ⟨g,cap,hv,-,hg,hc⟩:=row_at evL_len H1.out.er HAt.out
 change ev1 = .slice (some ⟨g,0,none⟩) (addk 0 r.E f).length cap at hv
 have c0 : w1.cell? ⟨r.pb,0,none⟩ = some ev1:=H1.out.cells.1
 have d1 : w1.cell? ⟨g,i * 2 + 1,none⟩ = some (.int .i64 m):=(hc 1 (by omega)).1
 have d2 : w1.frozen? ⟨g,i * 2 + 1,none⟩ = false:=(hc 1 (by omega)).2
 have hil:=(List.getElem?_eq_some_iff.1 HAt.out).1
 have HP:=hid (H1.out.putE (i:=i) HAt.out hv u)
 obtain ⟨n,hn⟩ : ∃ n,(addk 0 r.E f).length = n:=⟨_,rfl⟩
 have HNn:=hid hn
 rw [hn] at hv hil
 have HV:=hid hv
 subst hv
 have hii : (i : Int) < (n : Int):=by omega
 have hpb : r.pb < w1.heap.size:=H1.out.box.sz
 clear hc hi hn
 go_region_law (go_simp;go_at_call 53;refine (HM.out _).mono ?_;rintro e w' ⟨rfl,rfl⟩)
 all_goals
  obtain ⟨hR,hC⟩:=HP.out
  have z0 : (w1.setCell ⟨g,i * 2 + 1,none⟩ (.int .i64 u)).cell? ⟨r.pb,0,none⟩ = some (.slice (some ⟨g,0,none⟩) n cap):=hR.cells.1
  have z1 : (w1.setCell ⟨g,i * 2 + 1,none⟩ (.int .i64 u)).cell? ⟨g,i * 2 + 1,none⟩ = some (.int .i64 u):=World.cell?_setCell_same _ _ _ d1
  have HR2:=hid (hR.below (Below.drew (Below.refl _ _)))
  have HC2:=hid hC.drew
  clear hR hC c0 d1 d2
  go_wp2
  go_ret
  exact ⟨_,by rw [HU.out];rfl,by rw [HAl.out];exact HR2.out,Own1.trans HC1.out HF1.out HC2.out,HF1.out⟩
def BkPost (w : World) (base : Nat) (r : PR) (f : Site) (e : Ending) (w' : World) : Prop :=
 ∃ v',e = .returned (.int .i64 (Pf.more (Pf.look 0 r.J f) 1)) ∧ RefR w' base { r with jv:=v',J:=alt 0 r.J f (fun y=>Pf.more y 1) } ∧ Chg (Own1 r.pb r.jv) w w' ∧ Fresh w r.jv v'
theorem rBack_any {w : World} {base : Nat} {r : PR} (h : RefR w base r) (hn : r.J.length ≤ 2932031007340) (f : Site) (hb : Pf.Bd (Pf.look 0 r.J f)) : Calls Try.prog 29 #[.pointer (some ⟨r.pb,0,none⟩),stV f] w (BkPost w base r f):=by
 obtain ⟨w0,hw0⟩ : ∃ w0,w0 = w.alloc (.cells #[.int .i64 f.1,.int .i64 f.2] 29):=⟨_,rfl⟩
 have HB0 : Hid (Below w.heap.size w w0):=by show Below _ _ _;rw [hw0];exact (Below.refl _ _).alloc (Nat.le_refl _) _
 have bx : BX w0 w.heap.size #[.int .i64 f.1,.int .i64 f.2] 29:=by rw [hw0];exact BX.new w _ _
 have b0 : w0.cell? ⟨w.heap.size,0,none⟩ = some (.int .i64 f.1):=bx.cell 0
 have b1 : w0.cell? ⟨w.heap.size,1,none⟩ = some (.int .i64 f.2):=bx.cell 1
 have HW0:=hid hw0
 have HC:=hid (jump_any (h.below HB0.out) hn f)
 unfold stV at HC ⊢
 clear bx
 have HM:=hid (fun X=>more_any hb Pf.bd1 X)
 have HAt:=hid (Pf.addk_at (d:=(0 : Int)) r.J f)
 have HAl:=hid (Pf.alt_set (d:=(0 : Int)) r.J f (fun y=>Pf.more y 1))
 obtain ⟨m,hm⟩ : ∃ m,Pf.look 0 r.J f = m:=⟨_,rfl⟩
 obtain ⟨u,hu⟩ : ∃ u,Pf.more m 1 = u:=⟨_,rfl⟩
 have HU : Hid (Pf.more (Pf.look 0 r.J f) 1 = u):=by show _ = _;rw [hm];exact hu
 rw [hm] at HM HAt HAl
 rw [hu] at HM
 rw [hu] at HAl
 clear h hn hb hm hu hw0
 go_enter Try.func29,Try.ntmps29
 go_upto_region 1 with fail
 rw [← HW0.out]
 go_upto_region 2 with (go_at_call 54;go_loud (refine HC.out.mono ?_;rintro e w1 ⟨ev1,rfl,h1,hc1,hf1⟩;have H1:=hid h1;have HC1:=hid hc1;have HF1:=hid hf1;clear h1 hc1 hf1))
 obtain ⟨i,hi⟩ : ∃ i,ix r.J f = i:=⟨_,rfl⟩
 rw [hi] at HAt HAl ⊢
 obtain ⟨g,cap,hv,-,hg,hc⟩:=row_at jvL_len H1.out.jr HAt.out
 change ev1 = .slice (some ⟨g,0,none⟩) (addk 0 r.J f).length cap at hv
 have c0 : w1.cell? ⟨r.pb,1,none⟩ = some ev1:=H1.out.cells.2.1
 have d1 : w1.cell? ⟨g,i * 3 + 2,none⟩ = some (.int .i64 m):=(hc 2 (by omega)).1
 have d2 : w1.frozen? ⟨g,i * 3 + 2,none⟩ = false:=(hc 2 (by omega)).2
 have hil:=(List.getElem?_eq_some_iff.1 HAt.out).1
 have HP:=hid (H1.out.putJ (i:=i) HAt.out hv u)
 obtain ⟨n,hn⟩ : ∃ n,(addk 0 r.J f).length = n:=⟨_,rfl⟩
 have HNn:=hid hn
 rw [hn] at hv hil
 have HV:=hid hv
 subst hv
 have hii : (i : Int) < (n : Int):=by omega
 have hpb : r.pb < w1.heap.size:=H1.out.box.sz
 clear hc hi hn
 go_region_law (go_simp;go_at_call 53;refine (HM.out _).mono ?_;rintro e w' ⟨rfl,rfl⟩)
 all_goals
  obtain ⟨hR,hC⟩:=HP.out
  have z0 : (w1.setCell ⟨g,i * 3 + 2,none⟩ (.int .i64 u)).cell? ⟨r.pb,1,none⟩ = some (.slice (some ⟨g,0,none⟩) n cap):=hR.cells.2.1
  have z1 : (w1.setCell ⟨g,i * 3 + 2,none⟩ (.int .i64 u)).cell? ⟨g,i * 3 + 2,none⟩ = some (.int .i64 u):=World.cell?_setCell_same _ _ _ d1
  have HR2:=hid (hR.below (Below.drew (Below.refl _ _)))
  have HC2:=hid hC.drew
  clear hR hC c0 d1 d2
  go_wp2
  go_ret
  exact ⟨_,by rw [HU.out];rfl,by rw [HAl.out];exact HR2.out,Chg.trans' (Own1.trans HC1.out HF1.out HC2.out) HB0.out,HF1.out.elim .inl (fun ⟨g,e,l⟩=>.inr ⟨g,e,Nat.le_trans HB0.out.size l⟩)⟩
end Go.Proofs.Ytfphiomhlhpphaa
namespace Go.Proofs.Ytfphiomhlhpphaa
open Go Go.RowKit
open Pf (Site Sn ix addk alt keys)
set_option maxRecDepth 100000
set_option maxHeartbeats 2000000
theorem look_found {κ β : Type} [DecidableEq κ] {d : β} {l : List (κ × β)} {s : κ} {k : Nat} {x : κ × β} (hk : k ≤ ix l s) (hx : l[k]? = some x) (he : x.1 = s) : Pf.look d l s = x.2:=by
 have hi:=Pf.ix_at hk hx he
 have:=Pf.look_at (d:=d) (l:=l) (k:=s) (by rw [hi];exact (List.getElem?_eq_some_iff.1 hx).1)
 rw [hi,hx,Option.some.injEq] at this
 rw [this]
theorem rEntered_any {w : World} {base : Nat} {r : PR} (h : RefR w base r) (hn : r.E.length ≤ 2932031007340) (f : Int) : Calls Try.prog 34 #[.pointer (some ⟨r.pb,0,none⟩),.int .i64 f] w fun e w'=>e = .returned (.int .i64 (Pf.look 0 r.E f)) ∧ w' = w:=by
 have HR:=hid h
 obtain ⟨ea,ec,hev⟩:=own_form h.er
 have HIx:=hid (fun k x (a : k ≤ ix r.E f) (b : r.E[k]? = some x) (c : x.1 = f)=>look_found (d:=(0 : Int)) a b c)
 have HSt:=hid (fun k x (a : k ≤ ix r.E f) (b : r.E[k]? = some x) (c : ¬ x.1 = f)=>Pf.ix_step a b c)
 have HNo:=hid (fun (a : r.E.length ≤ ix r.E f)=>Pf.look_none (d:=(0 : Int)) a)
 obtain ⟨n,hnn⟩ : ∃ n,r.E.length = n:=⟨_,rfl⟩
 have HNN:=hid hnn
 rw [hnn] at hev hn
 have HEv:=hid hev
 obtain ⟨c0,-,-⟩:=h.cells
 rw [hev] at c0
 clear hev hnn h
 go_enter Try.func34,Try.ntmps34
 go_wp2
 go_loop [5] (fun v=>∃ k : Nat,v = .int .i64 (k : Int) ∧ k ≤ n ∧ Hid (k ≤ ix r.E f)) (fun v=>n - (intOf v).toNat)
 case atStart=>exact ⟨0,rfl,Nat.zero_le _,Nat.zero_le _⟩
 case round =>
  obtain ⟨k,rfl,hk,HK⟩:=hrel
  by_cases hlt : k < n
  ·obtain ⟨x,hx⟩ : ∃ x,r.E[k]? = some x:=⟨_,List.getElem?_eq_getElem (by rw [HNN.out];exact hlt)⟩
   obtain ⟨g,cap,hv,-,hg,hc⟩:=row_at evL_len HR.out.er hx
   have hv2:=HEv.out
   rw [hv,HNN.out] at hv2
   obtain ⟨hea,-,rfl⟩:=Value.slice.inj hv2
   subst hea
   have d0 : w.cell? ⟨g,k * 2,none⟩ = some (.int .i64 x.1):=(hc 0 (by omega)).1
   have d1 : w.cell? ⟨g,k * 2 + 1,none⟩ = some (.int .i64 x.2):=(hc 1 (by omega)).1
   have hki : (k : Int) < (n : Int):=by omega
   have HX:=hid hx
   clear hc hv hv2 hx
   by_cases he : x.1 = f
   ·have hd : (x.1 == f) = true:=by simpa using he
    have HI:=hid (HIx.out k x HK.out HX.out he)
    clear he
    go_wp2
    go_ret
    exact ⟨by rw [HI.out];rfl,rfl⟩
   ·have hd : (x.1 == f) = false:=by simpa using he
    have HS : Hid (k + 1 ≤ ix r.E f):=HSt.out k x HK.out HX.out he
    clear he
    go_wp2
    exact ⟨⟨k + 1,by go_num,by omega,HS⟩,by simp [intOf];omega⟩
  ·obtain rfl : k = n:=by omega
   have HI:=hid (HNo.out (by rw [HNN.out];exact HK.out))
   go_wp2
   go_ret
   exact ⟨by rw [HI.out];rfl,rfl⟩
def AtPost (w : World) (r : PR) (s : Site) (e : Ending) (w' : World) : Prop :=
 (∃ a b,e = .returned (.agg #[.int .i64 a,.int .i64 b,(Pf.look ce0 r.C s).1,.bool (Pf.look ce0 r.C s).2.2])) ∧ Below w.heap.size w w'
theorem AtPost.is {w : World} {r : PR} {s : Site} {e : Ending} {w' : World} (a b : Int) (h : e = .returned (.agg #[.int .i64 a,.int .i64 b,(Pf.look ce0 r.C s).1,.bool (Pf.look ce0 r.C s).2.2])) (hb : Below w.heap.size w w') : AtPost w r s e w':=⟨⟨a,b,h⟩,hb⟩
theorem rJumped_any {w : World} {base : Nat} {r : PR} (h : RefR w base r) (hn : r.J.length ≤ 2932031007340) (s : Site) : Calls Try.prog 35 #[.pointer (some ⟨r.pb,0,none⟩),stV s] w (fun e w'=>e = .returned (.int .i64 (Pf.look 0 r.J s)) ∧ Below w.heap.size w w'):=by
 obtain ⟨w1,hw1⟩ : ∃ w1,w1 = w.alloc (.cells #[.int .i64 s.1,.int .i64 s.2] 29):=⟨_,rfl⟩
 have hb1 : Below w.heap.size w w1:=by rw [hw1];exact BLw
 have bx : BX w1 w.heap.size #[.int .i64 s.1,.int .i64 s.2] 29:=by rw [hw1];exact (BX.new w _ _)
 have h1:=h.below hb1
 have HR:=hid h1
 have HBx:=hid bx
 have HB1:=hid hb1
 have HW1:=hid hw1
 obtain ⟨ea,ec,hev⟩:=own_form h.jr
 have HIx:=hid (fun k x (a : k ≤ ix r.J s) (b : r.J[k]? = some x) (c : x.1 = s)=>look_found (d:=(0 : Int)) a b c)
 have HSt:=hid (fun k x (a : k ≤ ix r.J s) (b : r.J[k]? = some x) (c : ¬ x.1 = s)=>Pf.ix_step a b c)
 have HNo:=hid (fun (a : r.J.length ≤ ix r.J s)=>Pf.look_none (d:=(0 : Int)) a)
 obtain ⟨n,hnn⟩ : ∃ n,r.J.length = n:=⟨_,rfl⟩
 have HNN:=hid hnn
 rw [hnn] at hev hn
 have HEv:=hid hev
 have HCl:=hid (fun X (b : Below w1.heap.size w1 X)=>(h1.below b).cells.2.1)
 rw [hev] at HCl
 have hpb:=h1.box.sz
 have hsb:=bx.sz
 unfold stV
 clear hev hnn h h1 bx hb1 hw1
 go_enter Try.func35,Try.ntmps35
 go_wp2
 rw [← HW1.out]
 go_loopw [5] (fun v wr=>∃ k : Nat,v = .int .i64 (k : Int) ∧ k ≤ n ∧ Hid (k ≤ ix r.J s) ∧ Hid (Below w1.heap.size w1 wr)) (fun v _=>n - (intOf v).toNat)
 case atStart=>exact ⟨0,rfl,Nat.zero_le _,Nat.zero_le _,Below.refl _ _⟩
 case round =>
  obtain ⟨k,rfl,hk,HK,HW⟩:=hrel
  have c0:=HCl.out wr HW.out
  have b0 : wr.cell? ⟨w.heap.size,0,none⟩ = some (.int .i64 s.1):=(HBx.out.below HW.out).cell 0
  have b1 : wr.cell? ⟨w.heap.size,1,none⟩ = some (.int .i64 s.2):=(HBx.out.below HW.out).cell 1
  have hwz:=HW.out.size
  by_cases hlt : k < n
  ·obtain ⟨x,hx⟩ : ∃ x,r.J[k]? = some x:=⟨_,List.getElem?_eq_getElem (by rw [HNN.out];exact hlt)⟩
   obtain ⟨g,cap,hv,-,hg,hc⟩:=row_at jvL_len (HR.out.below HW.out).jr hx
   have hv2:=HEv.out
   rw [hv,HNN.out] at hv2
   obtain ⟨hea,-,rfl⟩:=Value.slice.inj hv2
   subst hea
   have d0 : wr.cell? ⟨g,k * 3,none⟩ = some (.int .i64 x.1.1):=(hc 0 (by omega)).1
   have d1 : wr.cell? ⟨g,k * 3 + 1,none⟩ = some (.int .i64 x.1.2):=(hc 1 (by omega)).1
   have d2 : wr.cell? ⟨g,k * 3 + 2,none⟩ = some (.int .i64 x.2):=(hc 2 (by omega)).1
   have hki : (k : Int) < (n : Int):=by omega
   have HX:=hid hx
   clear hc hv hv2 hx
   rcases site_or x.1 s with he|hne
   ·have HI:=hid (HIx.out k x HK.out HX.out he)
    rw [he] at d0 d1
    clear he
    go_wp2
    go_quiet (fail)
    go_wp2
    have hbq:=belows_drewN HW.out nq
    have hbw:=belows HB1.out hbq HB1.out.size
    go_ret
    exact ⟨by rw [HI.out];rfl,hbw⟩
   ·have HS : Hid (k + 1 ≤ ix r.J s):=HSt.out k x HK.out HX.out (by rintro rfl;rcases hne with h|⟨-,h⟩ <;> exact h rfl)
    rcases hne with hd|⟨hd,hd2⟩
    ·have hd1 : (x.1.1 == s.1) = false:=by simpa using hd
     clear hd
     go_wp2
     go_quiet (fail)
     go_wp2
     go_roundw
     case rel=>exact ⟨k + 1,by go_num,by omega,HS,belows_drewN HW.out nq⟩
     case measure=>simp [intOf];omega
    ·have hd1 : (x.1.1 == s.1) = true:=by simpa using hd
     have hd3 : (x.1.2 == s.2) = false:=by simpa using hd2
     clear hd hd2
     go_wp2
     go_quiet (fail)
     go_wp2
     go_roundw
     case rel=>exact ⟨k + 1,by go_num,by omega,HS,belows_drewN HW.out nq⟩
     case measure=>simp [intOf];omega
  ·obtain rfl : k = n:=by omega
   have HI:=hid (HNo.out (by rw [HNN.out];exact HK.out))
   have hbw:=belows HB1.out HW.out HB1.out.size
   go_wp2
   go_ret
   exact ⟨by rw [HI.out];rfl,hbw⟩
theorem rat_any {w : World} {base : Nat} {r : PR} (h : RefR w base r) (hn : r.C.length ≤ 2932031007340) (s : Site) : Calls Try.prog 58 #[.pointer (some ⟨r.pb,0,none⟩),stV s] w (AtPost w r s):=by
 obtain ⟨w1,hw1⟩ : ∃ w1,w1 = (w.alloc (.cells #[.int .i64 s.1,.int .i64 s.2] 29)).alloc (.cells #[.int .i64 0,.int .i64 0,.slice none 0 0,.bool false] 99):=⟨_,rfl⟩
 have hb1 : Below w.heap.size w w1:=by rw [hw1];exact BLw
 have bx : BX w1 w.heap.size #[.int .i64 s.1,.int .i64 s.2] 29:=by rw [hw1];exact (BX.new w _ _).below ((Below.refl _ _).alloc (Nat.le_refl _) _)
 have rx : BX w1 (w.heap.size + 1) #[.int .i64 0,.int .i64 0,.slice none 0 0,.bool false] 99:=by
  have:=BX.new (w.alloc (.cells #[.int .i64 s.1,.int .i64 s.2] 29)) #[.int .i64 0,.int .i64 0,.slice none 0 0,.bool false] 99
  rw [World.size_alloc,← hw1] at this
  exact this
 have HRx:=hid rx
 have h1:=h.below hb1
 have HR:=hid h1
 have HBx:=hid bx
 have HB1:=hid hb1
 have HW1:=hid hw1
 obtain ⟨ea,ec,hev⟩:=own_form h.cr
 have HIx:=hid (fun k x (a : k ≤ ix r.C s) (b : r.C[k]? = some x) (c : x.1 = s)=>look_found (d:=ce0) a b c)
 have HSt:=hid (fun k x (a : k ≤ ix r.C s) (b : r.C[k]? = some x) (c : ¬ x.1 = s)=>Pf.ix_step a b c)
 have HNo:=hid (fun (a : r.C.length ≤ ix r.C s)=>Pf.look_none (d:=ce0) a)
 obtain ⟨n,hnn⟩ : ∃ n,r.C.length = n:=⟨_,rfl⟩
 have HNN:=hid hnn
 rw [hnn] at hev hn
 have HEv:=hid hev
 have HCl:=hid (fun X (b : Below w1.heap.size w1 X)=>(h1.below b).cells.2.2)
 rw [hev] at HCl
 have hpb:=h1.box.sz
 have hsb:=bx.sz
 unfold stV
 clear hev hnn h h1 bx hb1 hw1 rx
 go_enter Try.func58,Try.ntmps58
 go_wp2
 rw [← HW1.out]
 go_loopw [5] (fun v wr=>∃ k : Nat,v = .int .i64 (k : Int) ∧ k ≤ n ∧ Hid (k ≤ ix r.C s) ∧ Hid (Below w1.heap.size w1 wr)) (fun v _=>n - (intOf v).toNat)
 case atStart=>exact ⟨0,rfl,Nat.zero_le _,Nat.zero_le _,Below.refl _ _⟩
 case round =>
  obtain ⟨k,rfl,hk,HK,HW⟩:=hrel
  have c0:=HCl.out wr HW.out
  have b0 : wr.cell? ⟨w.heap.size,0,none⟩ = some (.int .i64 s.1):=(HBx.out.below HW.out).cell 0
  have b1 : wr.cell? ⟨w.heap.size,1,none⟩ = some (.int .i64 s.2):=(HBx.out.below HW.out).cell 1
  have rb:=HRx.out.below HW.out
  have r0 : wr.cell? ⟨w.heap.size + 1,0,none⟩ = some (.int .i64 0):=rb.cell 0
  have r1 : wr.cell? ⟨w.heap.size + 1,1,none⟩ = some (.int .i64 0):=rb.cell 1
  have r2 : wr.cell? ⟨w.heap.size + 1,2,none⟩ = some (.slice none 0 0):=rb.cell 2
  have r3 : wr.cell? ⟨w.heap.size + 1,3,none⟩ = some (.bool false):=rb.cell 3
  have g0:=rb.frozen 0
  have g1:=rb.frozen 1
  have g2:=rb.frozen 2
  have g3:=rb.frozen 3
  have hrz:=rb.sz
  clear rb
  have hwz:=HW.out.size
  by_cases hlt : k < n
  ·obtain ⟨x,hx⟩ : ∃ x,r.C[k]? = some x:=⟨_,List.getElem?_eq_getElem (by rw [HNN.out];exact hlt)⟩
   obtain ⟨g,cap,hv,-,hg,hc⟩:=row_at cvL_len (HR.out.below HW.out).cr hx
   have hv2:=HEv.out
   rw [hv,HNN.out] at hv2
   obtain ⟨hea,-,rfl⟩:=Value.slice.inj hv2
   subst hea
   have d0 : wr.cell? ⟨g,k * 4,none⟩ = some (.int .i64 x.1.1):=(hc 0 (by omega)).1
   have d1 : wr.cell? ⟨g,k * 4 + 1,none⟩ = some (.int .i64 x.1.2):=(hc 1 (by omega)).1
   have d2 : wr.cell? ⟨g,k * 4 + 2,none⟩ = some x.2.1:=(hc 2 (by omega)).1
   have d3 : wr.cell? ⟨g,k * 4 + 3,none⟩ = some (.bool x.2.2.2):=(hc 3 (by omega)).1
   obtain ⟨va,vc,hvx⟩:=own_form (HR.out.lr x (List.mem_of_getElem? hx))
   rw [hvx] at d2
   have HVx:=hid hvx
   clear hvx
   have hki : (k : Int) < (n : Int):=by omega
   have HX:=hid hx
   clear hc hv hv2 hx
   rcases site_or x.1 s with he|hne
   ·have HI:=hid (HIx.out k x HK.out HX.out he)
    rw [he] at d0 d1
    clear he
    go_wp2
    go_quiet (fail)
    go_wp2
    have hbq:=belows_drewN HW.out nq
    have hbw:=belows HB1.out hbq HB1.out.size
    refine bodyPost_ret (v:=.agg #[.int .i64 s.1,.int .i64 s.2,.slice va x.2.2.1.length vc,.bool x.2.2.2]) (by simp [results,Try.results58,go_sem,r0,r1,r2,r3]) rfl (AtPost.is s.1 s.2 (by rw [HI.out,HVx.out]) BLw)
   ·have HS : Hid (k + 1 ≤ ix r.C s):=HSt.out k x HK.out HX.out (by rintro rfl;rcases hne with h|⟨-,h⟩ <;> exact h rfl)
    rcases hne with hd|⟨hd,hd2⟩
    ·have hd1 : (x.1.1 == s.1) = false:=by simpa using hd
     clear hd
     go_wp2
     go_quiet (fail)
     go_wp2
     go_roundw
     case rel=>exact ⟨k + 1,by go_num,by omega,HS,belows_drewN HW.out nq⟩
     case measure=>simp [intOf];omega
    ·have hd1 : (x.1.1 == s.1) = true:=by simpa using hd
     have hd3 : (x.1.2 == s.2) = false:=by simpa using hd2
     clear hd hd2
     go_wp2
     go_quiet (fail)
     go_wp2
     go_roundw
     case rel=>exact ⟨k + 1,by go_num,by omega,HS,belows_drewN HW.out nq⟩
     case measure=>simp [intOf];omega
  ·obtain rfl : k = n:=by omega
   have HI:=hid (HNo.out (by rw [HNN.out];exact HK.out))
   have hbw:=belows HB1.out HW.out HB1.out.size
   go_wp2
   refine bodyPost_ret (v:=.agg #[.int .i64 0,.int .i64 0,.slice none 0 0,.bool false]) (by simp [results,Try.results58,go_sem,r0,r1,r2,r3]) rfl (AtPost.is 0 0 (by rw [HI.out];rfl) BLw)
end Go.Proofs.Ytfphiomhlhpphaa
namespace Go.Proofs.Ytfphiomhlhpphaa
open Go Go.RowKit
open Pf (Site Sn ix addk alt keys)
set_option maxRecDepth 100000
set_option maxHeartbeats 2000000
theorem RefR.lk {w : World} {base : Nat} {r : PR} (h : RefR w base r) (s : Site) : w.ownsRow base 44 2 (Pf.look ce0 r.C s).1 (Pf.look ce0 r.C s).2.1.length ((Pf.look ce0 r.C s).2.1.flatMap evL):=by
 by_cases hk : ix r.C s < r.C.length
 ·exact h.lr _ (List.mem_of_getElem? (Pf.look_at (d:=ce0) hk))
 ·rw [Pf.look_none (d:=ce0) (by omega)]
  exact ⟨rfl,.inl ⟨rfl,rfl⟩⟩
theorem rKind_any {w : World} {base : Nat} {r : PR} (h : RefR w base r) (hn : r.C.length ≤ 2932031007340) (s : Site) : Calls Try.prog 36 #[.pointer (some ⟨r.pb,0,none⟩),stV s] w fun e w'=>e = .returned (.int .i64 (Pf.kind (Pf.look ce0 r.C s).2)) ∧ Below w.heap.size w w':=by
 obtain ⟨w1,hw1⟩ : ∃ w1,w1 = w.alloc (.cells #[.int .i64 s.1,.int .i64 s.2] 29):=⟨_,rfl⟩
 have hb1 : Below w.heap.size w w1:=by rw [hw1];exact (Below.refl _ _).alloc (Nat.le_refl _) _
 have bx : BX w1 w.heap.size #[.int .i64 s.1,.int .i64 s.2] 29:=by rw [hw1];exact BX.new w _ _
 have b0 : w1.cell? ⟨w.heap.size,0,none⟩ = some (.int .i64 s.1):=bx.cell 0
 have b1 : w1.cell? ⟨w.heap.size,1,none⟩ = some (.int .i64 s.2):=bx.cell 1
 have HA:=rat_any (h.below hb1) hn s
 unfold AtPost at HA
 have HA:=hid HA
 have HB1:=hid hb1
 have HW1:=hid hw1
 obtain ⟨va,vc,hv⟩:=own_form (h.lk s)
 obtain ⟨⟨v,l,m⟩,hl⟩ : ∃ c,Pf.look ce0 r.C s = c:=⟨_,rfl⟩
 rw [hl] at hv HA ⊢
 dsimp only at hv HA ⊢
 subst hv
 have HK : Hid (Pf.kind (l,m) = if m = true then 3 else if l.length = 0 then 0 else if l.length = 1 then 1 else 2):=rfl
 unfold stV at HA ⊢
 clear hl bx hb1 hw1 h hn
 have D : m = true ∨ (m = false ∧ l.length = 0) ∨ (m = false ∧ l.length = 1) ∨ (m = false ∧ 2 ≤ l.length):=by
  cases m
  ·rcases Nat.lt_or_ge l.length 2 with h|h
   ·have : l.length = 0 ∨ l.length = 1:=by omega
    rcases this with h|h <;> simp [h]
   ·simp [h]
  ·simp
 obtain ⟨n,hn⟩ : ∃ n,l.length = n:=⟨_,rfl⟩
 rw [hn] at HA HK D
 clear hn
 rcases D with rfl|⟨rfl,rfl⟩|⟨rfl,rfl⟩|⟨rfl,hn2⟩
 case' inr.inr.inr =>
  have q0 : ((n : Int) == 0) = false:=by simp;omega
  have q1 : ((n : Int) == 1) = false:=by simp;omega
  have HK : Hid (Pf.kind (l,false) = 2):=by show _ = _;rw [HK.out,if_neg (by decide),if_neg (by omega),if_neg (by omega)]
  clear hn2
 all_goals
  go_enter Try.func36,Try.ntmps36
  go_upto_region 1 with fail
  rw [← HW1.out]
  go_wp2_with (go_at_call 58;go_loud (refine HA.out.mono ?_;rintro e W ⟨⟨a,b,rfl⟩,hb⟩;have HB:=hid (belows HB1.out hb HB1.out.size);clear hb))
  go_ret
  refine ⟨by rw [HK.out];rfl,?_⟩
  have hbw:=HB.out
  have hws:=hbw.size
  exact BLw
end Go.Proofs.Ytfphiomhlhpphaa
namespace Go.Proofs.Ytfphiomhlhpphaa.Kit
open Go Go.RowKit
theorem src_noneN {P : Program} {t e : TypeId} (ht : P.underlying t = some (.slice e)) (s c : Nat) (w : World) : Src P s t (.slice none 0 c) 0 [] w :=
 ⟨.inl ⟨_,ht⟩,fun _=>rfl,(by first|rfl|simp),(by first|rfl|simp),(by first|rfl|simp),fun u hu=>by cases hu⟩
theorem op_rows {P : Program} {o : Oper} {a : Act} {w : World} {K : Act → World → Prop} {Q : Exit → Act → World → Prop} (s x : Operand) (t : TypeId)
  (hop : o.op = Op.call { callee:=Callee.builtin Builtin.append,args:=#[s,x],argTypes:=#[t,t] })
  (B : Nat) (e : TypeId) (i : TypeInfo) (z : Value) (size bytes : Nat) (ht : P.underlying t = some (.slice e)) (hi : P.info? e = some i) (hz : i.zero = some z)
  (hsize : i.size = size) (hby : i.bytes = bytes) (hzs : z.cells.size = size) (hsz : 0 < size)
  (v : Value) (n : Nat) (xs : List Value) (hs : a.eval s = v) (hown : w.ownsRow B e size v n xs) (hB : B ≤ w.heap.size)
  (xv : Value) (m : Nat) (news : List Value) (hx : a.eval x = xv) (hr : Kit.IsS size w xv m news) (h1 : ∀ u ∈ news,u.oneCell' = true) (h63 : n + m ≤ maxLen) (hbytes : (n + m) * bytes ≤ 140737488355328)
  (hK : ∀ v' w',w'.ownsRow B e size v' (n + m) (xs ++ news) → w.grownBy w' v.ownBlock → (v'.ownBlock = v.ownBlock ∨ v'.ownBlock = some w.heap.size) → K (a.put o.dst v') w') :
  Oper.wp P o a w K Q:=by
 have some' : ∀ ad c,xv = .slice (some ad) m c → (∀ j u,news[j]? = some u → w.cell? (ad.add j) = some u) → Oper.wp P o a w K Q:=fun ad c he hc=>by
  subst he
  obtain ⟨v',w',hr',h2,h3,-,h5⟩:=run_append_own_at (P:=P) w B t o.type e i z size bytes ht hi hz hsize hby hzs hsz v n xs hown ad m c news hr.1 hc h1 h63 hbytes hB
  unfold Oper.wp execOp
  simp only [hop,resolve,invoke,builtin,Sem.run_bind,Sem.run_pure,Result.andThen_ok,List.map_toArray,List.map_cons,List.map_nil,hs,hx,hr']
  exact hK _ _ h2 h3 h5
 rcases hr.2.2 with ⟨h0,ad,c,he⟩|⟨b,ofs,c,he,-,-,hc⟩
 ·subst h0
  have hn : news = []:=List.eq_nil_of_length_eq_zero (by simpa using hr.1)
  cases ad with
  | some ad=>exact some' ad c he (fun j u hj=>by rw [hn] at hj;simp at hj)
  | none =>
   subst hn he
   have hcap : ∃ ad' n' c',v = .slice ad' n' c' ∧ n' ≤ c':=by
    rcases hown.2 with ⟨h,-⟩|⟨g,cap,cur,h,-,-,h4,-⟩
    ·exact ⟨none,0,0,h,Nat.le_refl _⟩
    ·exact ⟨_,_,_,h,h4⟩
   obtain ⟨ad',n',c',he',hle⟩:=hcap
   have hr':=run_append_nothing (P:=P) w t t o.type e i ht hi ad' n' c' hle (.slice none 0 c) (src_noneN ht _ c w)
   rw [← he'] at hr'
   unfold Oper.wp execOp
   simp only [hop,resolve,invoke,builtin,Sem.run_bind,Sem.run_pure,Result.andThen_ok,List.map_toArray,List.map_cons,List.map_nil,hs,hx,hr']
   exact hK _ _ (by simpa using hown) ⟨rfl,rfl,rfl,Nat.le_refl _,fun _ _ _=>rfl⟩ (.inl rfl)
 ·exact some' _ c he (fun j u hj=>by rw [Go.WideShapes.add_plain];exact hc j u hj)
theorem wpList_rows {P : Program} {ops : Array Oper} {rest : List Oper} {o : Oper} {a : Act} {w : World} {Q : Exit → Act → World → Prop} (hgd : o.guard = none) (s x : Operand) (t : TypeId)
  (hop : o.op = Op.call { callee:=Callee.builtin Builtin.append,args:=#[s,x],argTypes:=#[t,t] })
  (B : Nat) (e : TypeId) (i : TypeInfo) (z : Value) (size bytes : Nat) (ht : P.underlying t = some (.slice e)) (hi : P.info? e = some i) (hz : i.zero = some z)
  (hsize : i.size = size) (hby : i.bytes = bytes) (hzs : z.cells.size = size) (hsz : 0 < size)
  (v : Value) (n : Nat) (xs : List Value) (hs : a.eval s = v) (hown : w.ownsRow B e size v n xs) (hB : B ≤ w.heap.size)
  (xv : Value) (m : Nat) (news : List Value) (hx : a.eval x = xv) (hr : Kit.IsS size w xv m news) (h1 : ∀ u ∈ news,u.oneCell' = true) (h63 : n + m ≤ maxLen) (hbytes : (n + m) * bytes ≤ 140737488355328)
  (h : ∀ v' w',w'.ownsRow B e size v' (n + m) (xs ++ news) → w.grownBy w' v.ownBlock → (v'.ownBlock = v.ownBlock ∨ v'.ownBlock = some w.heap.size) → wpList P ops Q rest (a.put o.dst v') w') :
  wpList P ops Q (o :: rest) a w:=by
 refine wpList_plain hgd fun K hK=>?_
 exact op_rows s x t hop B e i z size bytes ht hi hz hsize hby hzs hsz v n xs hs hown hB xv m news hx hr h1 h63 hbytes (fun v' w' h2 h3 h4=>hK _ _ (h v' w' h2 h3 h4))
theorem step_rows {P : Program} {ops : Array Oper} {o : Oper} {a : Act} {w : World} {K : Act → World → Prop} {Q : Exit → Act → World → Prop} {E : Prop} (hgd : o.guard = none) (s x : Operand) (t : TypeId)
  (hop : o.op = Op.call { callee:=Callee.builtin Builtin.append,args:=#[s,x],argTypes:=#[t,t] })
  (B : Nat) (e : TypeId) (i : TypeInfo) (z : Value) (size bytes : Nat) (ht : P.underlying t = some (.slice e)) (hi : P.info? e = some i) (hz : i.zero = some z)
  (hsize : i.size = size) (hby : i.bytes = bytes) (hzs : z.cells.size = size) (hsz : 0 < size)
  (v : Value) (n : Nat) (xs : List Value) (hs : a.eval s = v) (hown : w.ownsRow B e size v n xs) (hB : B ≤ w.heap.size)
  (xv : Value) (m : Nat) (news : List Value) (hx : a.eval x = xv) (hr : Kit.IsS size w xv m news) (h1 : ∀ u ∈ news,u.oneCell' = true) (h63 : n + m ≤ maxLen) (hbytes : (n + m) * bytes ≤ 140737488355328)
  (hK : ∀ v' w',w'.ownsRow B e size v' (n + m) (xs ++ news) → w.grownBy w' v.ownBlock → (v'.ownBlock = v.ownBlock ∨ v'.ownBlock = some w.heap.size) → K (a.put o.dst v') w') :
  if Region.wanted o (yielded ops a.tmps) = true then Oper.wp P o a w K Q else E:=by
 have hw : Region.wanted o (yielded ops a.tmps) = true:=by simp [Region.wanted,hgd]
 rw [if_pos hw]
 exact op_rows s x t hop B e i z size bytes ht hi hz hsize hby hzs hsz v n xs hs hown hB xv m news hx hr h1 h63 hbytes hK
end Go.Proofs.Ytfphiomhlhpphaa.Kit
namespace Go.Proofs.Ytfphiomhlhpphaa
open Go Go.RowKit
open Pf (Site Sn ix addk alt keys)
set_option maxRecDepth 100000
set_option maxHeartbeats 2000000
theorem ones_ev (l : List Sn) : ∀ u ∈ l.flatMap evL,u.oneCell' = true:=by
 intro u hu
 obtain ⟨x,-,hx⟩:=List.mem_flatMap.1 hu
 simp only [evL,List.mem_cons,List.not_mem_nil,or_false] at hx
 rcases hx with rfl|rfl <;> rfl
section
variable {w : World} {base : Nat} {r : PR}
theorem RefR.putC (h : RefR w base r) {i g n cap j : Nat} {s : Site} {c c' : Ce} {u : Value} (hx : r.C[i]? = some (s,c)) (hv : r.cv = .slice (some ⟨g,0,none⟩) n cap) (hj : j < 4) (hu : cvL (s,c') = (cvL (s,c)).set j u)
  (hl : w.ownsRow base 44 2 c'.1 c'.2.1.length (c'.2.1.flatMap evL)) :
  RefR (w.setCell ⟨g,i * 4 + j,none⟩ u) base { r with C:=r.C.set i (s,c') } ∧ Chg (Own1 r.pb r.cv) w (w.setCell ⟨g,i * 4 + j,none⟩ u):=by
 have hg : r.cv.ownBlock = some g:=by rw [hv];rfl
 have hS : Chg (fun i=>i = g) w (w.setCell ⟨g,i * 4 + j,none⟩ u):=(Chg.refl (fun i=>i = g) w).set (.inl rfl) _
 have he:=h.cr
 rw [hv] at he
 obtain ⟨g',cap',hv',-⟩:=row_at cvL_len h.cr hx
 have hn : n = r.C.length:=by
  rw [hv] at hv'
  exact (Value.slice.inj hv').2.1
 subst hn
 refine ⟨⟨h.box.chg hS (fun e=>own_unlike_box h.cr h.box (by decide) (e ▸ hg)),owns_chg h.er hS (fun k e e2=>own_unlike h.er h.cr (by decide) k e (e2 ▸ hg)),owns_chg h.jr hS (fun k e e2=>own_unlike h.jr h.cr (by decide) k e (e2 ▸ hg)),?_,fun x hx=>?_,h.low⟩,hS.mono (fun k _ e=>.inr (e ▸ hg))⟩
 ·have h2:=owns_set he (i * 4 + j) u
  rw [← flat_set cvL_len (y:=(s,c')) hx hj hu] at h2
  show World.ownsRow _ base _ 4 r.cv (r.C.set i (s,c')).length _
  rw [hv,List.length_set]
  exact h2
 ·rcases List.mem_or_eq_of_mem_set hx with hx|rfl
  ·exact owns_chg (h.lr x hx) hS (fun k e e2=>own_unlike (h.lr x hx) h.cr (by decide) k e (e2 ▸ hg))
  ·exact owns_chg hl hS (fun k e e2=>own_unlike hl h.cr (by decide) k e (e2 ▸ hg))
end
theorem alt_new {κ β : Type} [DecidableEq κ] {d : β} {l : List (κ × β)} {k : κ} {g : β → β} (h : l.length ≤ ix l k) : alt d l k g = l ++ [(k,g d)]:=by
 have hi : ix l k = l.length:=Nat.le_antisymm (Pf.ix_le l k) h
 rw [Pf.alt_set,Pf.addk_new h,Pf.look_none h,hi,List.set_append_right _ _ (Nat.le_refl _),Nat.sub_self]
 rfl
def CntPost (w : World) (base : Nat) (r : PR) (s : Site) (k n : Int) (e : Ending) (w' : World) : Prop :=
 e = .returned (.tuple #[]) ∧ ∃ cv' v',RefR w' base { r with cv:=cv',C:=alt ce0 r.C s (fun c=>(v',Pf.cnt c.2 k n)) } ∧ Chg (Own1 r.pb r.cv) w w' ∧ Fresh w r.cv cv' ∧ (v' = (Pf.look ce0 r.C s).1 ∨ ∀ b,v'.ownBlock = some b → w.heap.size ≤ b)
theorem CntPost.is {w w' : World} {base : Nat} {r : PR} {s : Site} {k n : Int} (cv' v' : Value) (h : RefR w' base { r with cv:=cv',C:=alt ce0 r.C s (fun c=>(v',Pf.cnt c.2 k n)) }) (hc : Chg (Own1 r.pb r.cv) w w') (hf : Fresh w r.cv cv') (hv : v' = (Pf.look ce0 r.C s).1 ∨ ∀ b,v'.ownBlock = some b → w.heap.size ≤ b) : CntPost w base r s k n (.returned (.tuple #[])) w':=⟨rfl,cv',v',h,hc,hf,hv⟩
theorem rcount_any {w : World} {base : Nat} {r : PR} (h : RefR w base r) (hn : r.C.length ≤ 2932031007340) (s : Site) (hok : Pf.OkC (Pf.look ce0 r.C s).2) (k : Int) {n : Int} (hb : Pf.Bd n) : Calls Try.prog 55 #[.pointer (some ⟨r.pb,0,none⟩),stV s,.int .i64 k,.int .i64 n] w (CntPost w base r s k n):=by
 obtain ⟨i0,hi0,hz0,hz1,hzb⟩:=info_parts infoSe
 obtain ⟨w0,hw0⟩ : ∃ w0,w0 = w.alloc (.cells #[.int .i64 s.1,.int .i64 s.2] 29):=⟨_,rfl⟩
 have HB0 : Hid (Below w.heap.size w w0):=by show Below _ _ _;rw [hw0];exact (Below.refl _ _).alloc (Nat.le_refl _) _
 have bx : BX w0 w.heap.size #[.int .i64 s.1,.int .i64 s.2] 29:=by rw [hw0];exact BX.new w _ _
 have b0 : w0.cell? ⟨w.heap.size,0,none⟩ = some (.int .i64 s.1):=bx.cell 0
 have b1 : w0.cell? ⟨w.heap.size,1,none⟩ = some (.int .i64 s.2):=bx.cell 1
 have HW0:=hid hw0
 have HC:=hid (calls_any (h.below HB0.out) hn s)
 have HAt:=hid (Pf.addk_at (d:=ce0) r.C s)
 have HAl:=hid (fun g=>Pf.alt_set (d:=ce0) r.C s g)
 obtain ⟨⟨v,l,m⟩,hl⟩ : ∃ c,Pf.look ce0 r.C s = c:=⟨_,rfl⟩
 have HLk : Hid ((Pf.look ce0 r.C s).1 = v):=by show _ = _;rw [hl]
 rw [hl] at hok HAt HAl
 have HOk:=hid hok
 have HBn:=hid hb
 unfold stV at HC ⊢
 clear bx hw0 h hn hok hl hb
 go_enter Try.func55,Try.ntmps55
 go_upto_region 1 with fail
 rw [← HW0.out]
 go_upto_region 2 with (go_at_call 57;go_loud (refine HC.out.mono ?_;rintro e w1 ⟨cv1,rfl,h1,hc1,hf1⟩;have H1:=hid h1;have HC1:=hid hc1;have HF1:=hid hf1;clear h1 hc1 hf1))
 obtain ⟨i,hi⟩ : ∃ i,ix r.C s = i:=⟨_,rfl⟩
 rw [hi] at HAt HAl ⊢
 obtain ⟨g,cap,hv,-,hg,hc⟩:=row_at cvL_len H1.out.cr HAt.out
 change cv1 = .slice (some ⟨g,0,none⟩) (addk ce0 r.C s).length cap at hv
 have hlr:=H1.out.lr _ (List.mem_of_getElem? HAt.out)
 change w1.ownsRow base 44 2 v l.length (l.flatMap evL) at hlr
 obtain ⟨va,vc,hvv⟩:=own_form hlr
 have c0 : w1.cell? ⟨r.pb,2,none⟩ = some cv1:=H1.out.cells.2.2
 have d1 : w1.cell? ⟨g,i * 4 + 1 + 1,none⟩ = some v:=(hc 2 (by omega)).1
 have hil:=(List.getElem?_eq_some_iff.1 HAt.out).1
 have hl4:=HOk.out.ln
 change l.length ≤ 4 at hl4
 have HIs:=hid (fun X (b : Below w1.heap.size w1 X)=>Kit.isS_of_owns (Kit.owns_below hlr b (Nat.le_refl _)) (by omega))
 have HVV:=hid hvv
 rw [hvv] at d1 HIs
 obtain ⟨cn,hcn⟩ : ∃ n,(addk ce0 r.C s).length = n:=⟨_,rfl⟩
 rw [hcn] at hv hil
 have HV:=hid hv
 rw [hv] at c0
 have hii : (i : Int) < (cn : Int):=by omega
 have hpb : r.pb < w1.heap.size:=H1.out.box.sz
 clear hc hi hcn hlr hvv hv
 go_upto_region 3 with (at_builtin;go_loud (refine Kit.wpList_rows rfl (.const (.slice none 0 0)) (.tmp 21) 41 rfl w1.heap.size 44 i0 _ 2 16 Try.underlying41 hi0 hz0 hz1 hzb rfl (by decide) (.slice none 0 0) 0 [] rfl ⟨rfl,.inl ⟨rfl,rfl⟩⟩ (Nat.le_refl _) (.slice va l.length vc) l.length (l.flatMap evL) rfl (HIs.out _ (Below.refl _ _)) (ones_ev l) (by unfold maxLen;omega) (by omega) ?_;intro v9 w2 ho2 hg2 _;rw [Nat.zero_add,List.nil_append] at ho2;have HO2:=hid ho2;have hb2 : Below w1.heap.size w1 w2:=Kit.below_grown (Below.refl _ _) hg2 (Nat.le_refl _) (fun k e=>by simp [Value.ownBlock] at e);have HB2:=hid hb2;obtain ⟨la,lc,h9⟩:=own_form ho2;subst h9;clear ho2 hg2 hb2 c0 d1))
 have H2:=hid (H1.out.below HB2.out)
 have HNW:=hid (fun q (hq : ({ r with cv:=cv1,C:=addk ce0 r.C s } : PR).foot q)=>(H1.out.lows q hq).2)
 have c0 : w2.cell? ⟨r.pb,2,none⟩ = some cv1:=H2.out.cells.2.2
 rw [HV.out] at c0
 have hz2 : w1.heap.size ≤ w2.heap.size:=HB2.out.size
 obtain ⟨g',cap',hv',-,hg2,hc⟩:=row_at cvL_len H2.out.cr HAt.out
 have e1:=HV.out
 rw [show ({ r with cv:=cv1,C:=addk ce0 r.C s } : PR).cv = cv1 from rfl,e1] at hv'
 obtain ⟨e2,-,-⟩:=Value.slice.inj hv'
 obtain rfl : g = g':=by simpa using e2
 have d2 : w2.cell? ⟨g,i * 4 + 2,none⟩ = some v:=(hc 2 (by omega)).1
 have f2 : w2.frozen? ⟨g,i * 4 + 2,none⟩ = false:=(hc 2 (by omega)).2
 have d3 : w2.cell? ⟨g,i * 4 + 3,none⟩ = some (.bool m):=(hc 3 (by omega)).1
 have f3 : w2.frozen? ⟨g,i * 4 + 3,none⟩ = false:=(hc 3 (by omega)).2
 have hgf : g < w1.heap.size:=HNW.out g (.inr (.inr (.inr (.inl (by rw [show ({ r with cv:=cv1,C:=addk ce0 r.C s } : PR).cv = cv1 from rfl,e1];rfl)))))
 have HGO : Hid (cv1.ownBlock = some g):=by show _ = _;rw [e1];rfl
 have hbase : base ≤ w1.heap.size:=Nat.le_trans H1.out.low (Nat.le_of_lt H1.out.box.sz)
 have HIx:=hid (fun j x (a : j ≤ ix l k) (b : l[j]? = some x) (c : x.1 = k)=>Pf.ix_at a b c)
 have HSt:=hid (fun j x (a : j ≤ ix l k) (b : l[j]? = some x) (c : ¬ x.1 = k)=>Pf.ix_step a b c)
 have HLe:=hid (Pf.ix_le l k)
 have HKx:=hid (Pf.ix_keys l k)
 obtain ⟨ln,hln⟩ : ∃ q,l.length = q:=⟨_,rfl⟩
 have HLn:=hid hln
 rw [hln] at hl4 ⊢
 rw [HVV.out] at d2
 rw [hln] at d2
 clear hc hv' e1 e2 hln hg2
 go_wp2
 go_loop [10] (fun q=>∃ j : Nat,q = .int .i64 (j : Int) ∧ j ≤ ln ∧ Hid (j ≤ ix l k)) (fun q=>ln - (intOf q).toNat)
 case atStart=>exact ⟨0,rfl,Nat.zero_le _,Nat.zero_le _⟩
 case round =>
  obtain ⟨j,rfl,hj,HK⟩:=hrel
  by_cases hlt : j < ln
  ·obtain ⟨x,hx⟩ : ∃ x,l[j]? = some x:=⟨_,List.getElem?_eq_getElem (by rw [HLn.out];exact hlt)⟩
   obtain ⟨q,qc,hq,hqb,hql,hqx⟩:=row_at evL_len (L:=l) HO2.out hx
   obtain ⟨e3,-,e4⟩:=Value.slice.inj hq
   subst e3 e4
   have x0 : w2.cell? ⟨q,j * 2,none⟩ = some (.int .i64 x.1):=(hqx 0 (by omega)).1
   have x1 : w2.cell? ⟨q,j * 2 + 1,none⟩ = some (.int .i64 x.2):=(hqx 1 (by omega)).1
   have y1 : w2.frozen? ⟨q,j * 2 + 1,none⟩ = false:=(hqx 1 (by omega)).2
   have hji : (j : Int) < (ln : Int):=by omega
   have HX:=hid hx
   clear hqx hx hq
   by_cases he : x.1 = k
   ·have hd : (x.1 == k) = true:=by simpa using he
    have HI:=hid (HIx.out j x HK.out HX.out he)
    have HM:=hid (fun X=>(more_any (HOk.out.bd x (List.mem_of_getElem? HX.out)) HBn.out X).mono (R':=fun e w'=>e = .returned (.int .i64 (Pf.more x.2 n)) ∧ X = w') (fun e w' h=>⟨h.1,h.2.symm⟩))
    obtain ⟨u,hu⟩ : ∃ u,Pf.more x.2 n = u:=⟨_,rfl⟩
    rw [hu] at HM
    obtain ⟨w3,hw3⟩ : ∃ w3,w2.setCell ⟨q,j * 2 + 1,none⟩ (.int .i64 u) = w3:=⟨_,rfl⟩
    have hcq : Chg (fun b=>b = q) w2 w3:=by rw [← hw3];exact (Chg.refl (fun b=>b = q) w2).set (.inl rfl) _
    have H3:=hid (H2.out.chg hcq (fun b hb e=>by have:=HNW.out b hb;omega))
    have ho3 : w3.ownsRow w1.heap.size 44 2 (.slice (some ⟨q,0,none⟩) l.length lc) (l.set j (k,u)).length ((l.set j (k,u)).flatMap evL):=by
     rw [← hw3,flat_set evL_len (x:=x) (y:=(k,u)) (j:=1) (u:=.int .i64 u) HX.out (by omega) (by rw [← he];rfl),List.length_set]
     exact owns_set HO2.out (j * 2 + 1) (.int .i64 u)
    have hne : g ≠ q:=by omega
    have z0 : w3.cell? ⟨r.pb,2,none⟩ = some (.slice (some ⟨g,0,none⟩) cn cap):=by rw [← HV.out];exact H3.out.cells.2.2
    have z2 : w3.cell? ⟨g,i * 4 + 2,none⟩ = some (.slice va ln vc):=(hcq.cell (p:=⟨g,i * 4 + 2,none⟩) (by show g < w2.heap.size;omega) hne).trans d2
    have zf : w3.frozen? ⟨g,i * 4 + 2,none⟩ = false:=by
     have:=hcq.block g (by omega) hne
     simp only [World.frozen?] at f2 ⊢
     rw [show w3.heap[(⟨g,i * 4 + 2,none⟩ : Addr).block]? = w2.heap[(⟨g,i * 4 + 2,none⟩ : Addr).block]? from this]
     exact f2
    have HPt:=hid (H3.out.putC (j:=2) (c':=(.slice (some ⟨q,0,none⟩) l.length lc,l.set j (k,u),m)) (u:=.slice (some ⟨q,0,none⟩) l.length lc) HAt.out HV.out (by omega) rfl (Kit.owns_mono ho3 hbase))
    have hz3:=hcq.size
    have HE : Hid (Pf.cnt (l,m) k n = (l.set j (k,u),m)):=by
     show _ = _
     have hmem:=(Pf.ix_keys l k).1 (by rw [HI.out,HLn.out];exact hlt)
     unfold Pf.cnt
     rw [if_pos (.inl hmem)]
     show (alt 0 l k _,m) = _
     rw [Pf.alt_set,Pf.addk_here (by rw [HI.out,HLn.out];exact hlt),HI.out,look_found (d:=(0 : Int)) HK.out HX.out he,hu]
    have HQ:=hid hcq
    have hq2 : q < w2.heap.size:=hql
    rw [← hw3] at z0 z2 zf
    have HW3:=hid hw3
    clear he hu hcq ho3 f2 f3 d2 d3 hw3
    go_wp2_with (go_at_call 53;refine (HM.out _).mono ?_;rintro e w' ⟨rfl,rfl⟩)
    try simp only [Exit.inBlock,Exit.then]
    obtain ⟨hR,hC⟩:=HPt.out
    rw [← HW3.out,HLn.out] at hR hC
    refine bodyPost_ret (v:=.tuple #[]) (by simp [results,Try.results55,go_sem]) rfl (CntPost.is cv1 (.slice (some ⟨q,0,none⟩) ln lc) ?_ ?_ (HF1.out.elim .inl (fun ⟨g,e,l⟩=>.inr ⟨g,e,Nat.le_trans HB0.out.size l⟩)) (.inr (fun b e=>Nat.le_trans (Nat.le_trans HB0.out.size HC1.out.size) (Kit.own_base HO2.out b (by rw [HLn.out];exact e)))))
    ·rw [HAl.out]
     dsimp only
     rw [HE.out]
     exact hR
    ·refine Chg.trans' (Own1.trans HC1.out HF1.out ?_) HB0.out
     refine Chg.trans (b:=w2) (Chg.of_below HB2.out) (T:=fun b=>b = q ∨ b = g) ?_ (fun b e=>?_)
     ·exact ((Chg.refl (fun b=>b = q ∨ b = g) w2).set (.inl (.inl rfl)) _).set (.inl (.inr rfl)) _
     ·rcases e with rfl|rfl
      ·exact .inr hqb
      ·exact .inl (.inr HGO.out)
   ·have hd : (x.1 == k) = false:=by simpa using he
    have HS : Hid (j + 1 ≤ ix l k):=HSt.out j x HK.out HX.out he
    clear he
    go_wp2
    exact ⟨⟨j + 1,by go_num,by omega,HS⟩,by simp [intOf];omega⟩
  ·obtain rfl : j = ln:=by omega
   have HNo : Hid (¬ k ∈ keys l):=by
    show ¬ _
    rw [← HKx.out]
    have:=HK.out
    have:=HLn.out
    omega
   by_cases h4 : 4 ≤ j
   ·have h44 : (4 : Int) ≤ (j : Int):=by omega
    have HE : Hid (Pf.cnt (l,m) k n = (l,true)):=by
     have h:=HNo.out
     have h2:=HLn.out
     show _ = _
     unfold Pf.cnt
     rw [if_neg (by rintro (e|e);exact h e;simp only at e;omega)]
    have HPt:=hid (H2.out.putC (j:=3) (c':=(v,l,true)) (u:=.bool true) HAt.out HV.out (by omega) rfl (H2.out.lr _ (List.mem_of_getElem? HAt.out)))
    have hgw : g < w2.heap.size:=by omega
    clear h4
    go_wp2
    try simp only [Exit.inBlock,Exit.then]
    obtain ⟨hR,hC⟩:=HPt.out
    refine bodyPost_ret (v:=.tuple #[]) (by simp [results,Try.results55,go_sem]) rfl (CntPost.is cv1 v ?_ ?_ (HF1.out.elim .inl (fun ⟨g,e,l⟩=>.inr ⟨g,e,Nat.le_trans HB0.out.size l⟩)) (.inl HLk.out.symm))
    ·rw [HAl.out]
     dsimp only
     rw [HE.out]
     exact hR
    ·refine Chg.trans' (Own1.trans HC1.out HF1.out ?_) HB0.out
     exact Chg.trans (b:=w2) (Chg.of_below HB2.out) hC (fun b e=>.inl e)
   ·have h44 : ¬ (4 : Int) ≤ (j : Int):=by omega
    have HE : Hid (Pf.cnt (l,m) k n = (l ++ [(k,n)],m)):=by
     have h2:=HLn.out
     have hx : l.length ≤ ix l k:=by have:=HK.out;omega
     show _ = _
     unfold Pf.cnt
     rw [if_pos (.inr (by simp only;omega))]
     show (alt 0 l k _,m) = _
     rw [alt_new hx,Pf.more_zero HBn.out]
    have HOw:=hid (fun X (b : Below w2.heap.size w2 X)=>Kit.owns_below HO2.out b (Nat.le_refl _))
    rw [HLn.out] at HOw
    have HLo:=hid (fun b (e : (Value.slice la j lc).ownBlock = some b)=>Kit.own_base HO2.out b (by rw [HLn.out];exact e))
    have hgw : g < w2.heap.size:=by omega
    have hpw : r.pb < w2.heap.size:=by omega
    clear h4
    go_upto_region 11 with fail
    go_region_law (refine Kit.step_append_own rfl (.tmp 70) (.tmp 74) 41 rfl w1.heap.size 44 i0 _ 2 16 Try.underlying41 hi0 hz0 hz1 hzb rfl (by decide) (.slice la j lc) j _ rfl (HOw.out _ BLw) ⟨w2.heap.size,0,none⟩ 1 1 [.int .i64 k,.int .i64 n] rfl rfl (news_of _ _ _) (by intro u hu;simp at hu;rcases hu with rfl|rfl <;> rfl) (by unfold maxLen;omega) (by omega) (by first|omega|(simp;omega)) ?_;intro v' w3 ho3 hg3 hk3;go_loud (have hcg : Chg (fun b=>(Value.slice la j lc).ownBlock = some b) w2 w3:=Chg.grown (Chg.of_below BLw) hg3 (fun b e=>.inl e);have h3:=H2.out.chg hcg (fun b hb e=>Nat.lt_irrefl _ (Nat.lt_of_lt_of_le (HNW.out b hb) (HLo.out b e)));have z0 : w3.cell? ⟨r.pb,2,none⟩ = some (.slice (some ⟨g,0,none⟩) cn cap):=(by rw [← HV.out];exact h3.cells.2.2);have hPt:=h3.putC (j:=2) (c':=(v',l ++ [(k,n)],m)) (u:=v') HAt.out HV.out (by omega) rfl (by (rw [List.length_append,List.flatMap_append,HLn.out];exact Kit.owns_mono ho3 hbase));have hng : (Value.slice la j lc).ownBlock ≠ some g:=(fun e=>by have:=HLo.out g e;omega);have z2 : w3.cell? ⟨g,i * 4 + 2,none⟩ = some (.slice va j vc):=(hcg.cell (p:=⟨g,i * 4 + 2,none⟩) hgw hng).trans d2;have zf : w3.frozen? ⟨g,i * 4 + 2,none⟩ = false:=(by (have hbk:=hcg.block g hgw hng);(simp only [World.frozen?] at f2 ⊢);(rw [show w3.heap[(⟨g,i * 4 + 2,none⟩ : Addr).block]? = w2.heap[(⟨g,i * 4 + 2,none⟩ : Addr).block]? from hbk]);exact f2);have HPt:=hid hPt;have HCg:=hid hcg;have hz3:=hcg.size;have HVf:=hid (fun b (e : v'.ownBlock = some b)=>Kit.own_base ho3 b e);obtain ⟨b2,p2,rfl⟩:=own_form ho3;clear ho3 hg3 hk3 hcg h3 hPt))
    all_goals
     go_wp2
     try simp only [Exit.inBlock,Exit.then]
     obtain ⟨hR,hC⟩:=HPt.out
     refine bodyPost_ret (v:=.tuple #[]) (by simp [results,Try.results55,go_sem]) rfl (CntPost.is cv1 (.slice b2 (j + 1) p2) ?_ ?_ (HF1.out.elim .inl (fun ⟨g,e,l⟩=>.inr ⟨g,e,Nat.le_trans HB0.out.size l⟩)) (.inr (fun b e=>Nat.le_trans (Nat.le_trans HB0.out.size HC1.out.size) (HVf.out b e))))
     ·rw [HAl.out]
      dsimp only
      rw [HE.out]
      exact hR
     ·refine Chg.trans' (Own1.trans HC1.out HF1.out ?_) HB0.out
      exact Chg.trans (b:=w2) (Chg.of_below HB2.out) (Chg.trans (HCg.out.mono (fun b _ e=>.inr e)) hC (T:=Own1 r.pb cv1) (S:=fun b=>Own1 r.pb cv1 b ∨ (Value.slice la j lc).ownBlock = some b) (fun b e=>.inl (.inl e))) (fun b e=>by
       rcases e with e|e
       ·exact .inl e
       ·exact .inr (HLo.out b e))
end Go.Proofs.Ytfphiomhlhpphaa
namespace Go.Proofs.Ytfphiomhlhpphaa
open Go Go.RowKit
open Pf (Site Sn ix addk alt keys)
set_option maxRecDepth 100000
set_option maxHeartbeats 2000000
def CallPost (w : World) (base : Nat) (r : PR) (s : Site) (k : Int) (e : Ending) (w' : World) : Prop :=
 e = .returned (.int .i64 (Pf.kind (Pf.cnt (Pf.look ce0 r.C s).2 k 1))) ∧ ∃ cv' v',RefR w' base { r with cv:=cv',C:=alt ce0 r.C s (fun c=>(v',Pf.cnt c.2 k 1)) } ∧ Chg (Own1 r.pb r.cv) w w' ∧ Fresh w r.cv cv' ∧ (v' = (Pf.look ce0 r.C s).1 ∨ ∀ b,v'.ownBlock = some b → w.heap.size ≤ b)
theorem rCall_any {w : World} {base : Nat} {r : PR} (h : RefR w base r) (hn : r.C.length < 2932031007340) (s : Site) (hok : Pf.OkC (Pf.look ce0 r.C s).2) (k : Int) : Calls Try.prog 30 #[.pointer (some ⟨r.pb,0,none⟩),stV s,.int .i64 k] w (CallPost w base r s k):=by
 obtain ⟨w0,hw0⟩ : ∃ w0,w0 = w.alloc (.cells #[.int .i64 s.1,.int .i64 s.2] 29):=⟨_,rfl⟩
 have HB0 : Hid (Below w.heap.size w w0):=by show Below _ _ _;rw [hw0];exact (Below.refl _ _).alloc (Nat.le_refl _) _
 have bx : BX w0 w.heap.size #[.int .i64 s.1,.int .i64 s.2] 29:=by rw [hw0];exact BX.new w _ _
 have b0 : w0.cell? ⟨w.heap.size,0,none⟩ = some (.int .i64 s.1):=bx.cell 0
 have b1 : w0.cell? ⟨w.heap.size,1,none⟩ = some (.int .i64 s.2):=bx.cell 1
 have HW0:=hid hw0
 have h0:=h.below HB0.out
 have HC:=hid (rcount_any h0 (by omega) s hok k Pf.bd1)
 have HK:=hid (fun X cv' v' (hX : RefR X base { r with cv:=cv',C:=alt ce0 r.C s (fun c=>(v',Pf.cnt c.2 k 1)) })=>rKind_any hX (by
  have h1:=(Pf.addk_len (d:=ce0) r.C s).2.1
  have h2:=Pf.alt_len (d:=ce0) r.C s (fun c=>(v',Pf.cnt c.2 k 1))
  show (alt ce0 r.C s _).length ≤ _
  omega) s)
 have HL:=hid (fun v'=>Pf.look_alt (d:=ce0) r.C s s (fun c=>((v',Pf.cnt c.2 k 1) : Ce)))
 have HBx:=hid (fun X (c : Chg (Own1 r.pb r.cv) w0 X)=>bx.chg c (fun e=>by
  rcases e with e|e
  ·have:=h.box.sz
   omega
  ·exact own_unlike_box h0.cr bx (by decide) e))
 unfold stV at HC HK ⊢
 clear bx hw0 h h0 hn hok
 go_enter Try.func30,Try.ntmps30
 go_upto_region 1 with fail
 rw [← HW0.out]
 go_wp2_with (first
  | (go_at_call 55;go_loud (refine HC.out.mono ?_;rintro e w1 ⟨rfl,cv1,v1,h1,hc1,hf1,hv1⟩;have HV1:=hid hv1;have H1:=hid h1;have HC1:=hid hc1;have HF1:=hid hf1;have c0 : w1.cell? ⟨w.heap.size,0,none⟩ = some (.int .i64 s.1):=(HBx.out w1 hc1).cell 0;have c1 : w1.cell? ⟨w.heap.size,1,none⟩ = some (.int .i64 s.2):=(HBx.out w1 hc1).cell 1;clear h1 hc1 hf1 hv1 b0 b1))
  | (go_at_call 36;go_loud (refine (HK.out _ _ _ H1.out).mono ?_;rintro e w2 ⟨rfl,hb2⟩;have HB2:=hid hb2;clear hb2 c0 c1)))
 go_ret
 have e:=HL.out v1
 simp only [if_true] at e
 refine ⟨by show Ending.returned (.int .i64 (Pf.kind (Pf.look ce0 (alt ce0 r.C s fun c=>(v1,Pf.cnt c.snd k 1)) s).snd)) = _;rw [e],cv1,v1,H1.out.below HB2.out,Chg.trans' (HC1.out.below HB2.out) HB0.out,HF1.out.elim .inl (fun ⟨g,e,l⟩=>.inr ⟨g,e,Nat.le_trans HB0.out.size l⟩),HV1.out.imp_right (fun h b e=>Nat.le_trans HB0.out.size (h b e))⟩
def pr0 (pb : Nat) : PR:=⟨pb,.slice none 0 0,.slice none 0 0,.slice none 0 0,[],[],[]⟩
theorem rNew_any (w : World) : Calls Try.prog 8 #[] w fun e w'=>e = .returned (.pointer (some ⟨w.heap.size,0,none⟩)) ∧ RefR w' w.heap.size (pr0 w.heap.size) ∧ Below w.heap.size w w':=by
 go_enter Try.func8,Try.ntmps8
 go_wp2
 go_ret
 exact ⟨rfl,⟨BX.new w _ _,⟨rfl,.inl ⟨rfl,rfl⟩⟩,⟨rfl,.inl ⟨rfl,rfl⟩⟩,⟨rfl,.inl ⟨rfl,rfl⟩⟩,(fun x hx=>by cases hx),Nat.le_refl _⟩,(Below.refl _ _).alloc (Nat.le_refl _) _⟩
end Go.Proofs.Ytfphiomhlhpphaa
