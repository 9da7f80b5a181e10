/- Own texts for the claim, part 16. -/
import Derived.Test.YtnojgiflgmnjlaaGreatDoorZD15
set_option maxRecDepth 100000
namespace Go.Proofs.YtnojgiflgmnjlaaGreatDoor
open Go.RowKit
def rngB (l : List L1.Op1.Ins) (n : Nat) (h : Cf.Hn) : Bool:=decide (h.f < h.t) && (Cf.begB l h.f && (Cf.begB l h.a && (Cf.begB l h.t || h.t == (n : Int))))
theorem hdE_eq (P : List L3.Cp.C) (l : List L1.Op1.Ins) (n : Nat) (h : Cf.Hn) : Cf.hdE P l n h = if rngB l n h = true then (if h.y = 0 then 0 else Cf.claE P h.y) else 46:=by
 unfold Cf.hdE rngB
 congr 1
 simp
def BgR (w : World) (bv : Value) (l : List L1.Op1.Ins) (n : Nat) : Prop:=Kit.IsS 1 w bv n ((List.range n).map fun i : Nat=>Value.bool (Cf.begB l (i : Int)))
def InR (l : List L1.Op1.Ins) (n : Nat) : Prop:=∀ x ∈ l,0 ≤ x.p ∧ x.p < (n : Int)
theorem beg_in {l : List L1.Op1.Ins} {n : Nat} (h : InR l n) {p : Int} (hb : Cf.begB l p = true) : 0 ≤ p ∧ p < (n : Int):=by
 unfold Cf.begB at hb
 rw [List.any_eq_true] at hb
 obtain ⟨x,hx,he⟩:=hb
 have:=h x hx
 have:=eq_of_beq he
 omega
theorem isAt_any (qb : Nat) (bv : Value) (l : List L1.Op1.Ins) (n : Nat) (p : Int) (w : World) (hl : InR l n) (hb : BgR w bv l n) (hx : L3.BX w qb #[bv] 190) :
  Calls Tryz.prog 180 #[.int .i64 p,.pointer (some ⟨qb,0,none⟩)] w fun e w'=>e = .returned (.bool (Cf.begB l p)) ∧ w = w':=by
 have c0:=hx.cell 0
 simp at c0
 obtain ⟨a,cap,rfl⟩:=hb.len
 by_cases h1 : 0 ≤ p ∧ p < (n : Int)
 ·obtain ⟨k,rfl⟩:=Int.eq_ofNat_of_zero_le h1.1
  have hk : k < n:=by omega
  obtain ⟨b,o,cap',hv,-,-,hc⟩:=hb.some (by omega)
  obtain ⟨rfl,-,-⟩:=Value.slice.inj hv
  have ck:=hc k (.bool (Cf.begB l (k : Int))) (by rw [List.getElem?_map,List.getElem?_range hk];rfl)
  have hki : (k : Int) < (n : Int):=by omega
  obtain ⟨x,hx2⟩ : ∃ x,x = Cf.begB l (k : Int):=⟨_,rfl⟩
  rw [← hx2] at ck ⊢
  clear hx2 hc hb hl hv
  go_enter Tryz.func180,Tryz.ntmps180
  go_wp2
  all_goals go_ret
  all_goals exact ⟨rfl,rfl⟩
 ·have hf : Cf.begB l p = false:=by
   cases h : Cf.begB l p with
   | false=>rfl
   | true=>exact absurd (beg_in hl h) h1
  rw [hf]
  by_cases h2 : 0 ≤ p
  ·have d1 : decide (0 ≤ p) = true:=by simp [h2]
   have d2 : decide (p < (n : Int)) = false:=by simp;omega
   clear h1 hf hb hl
   go_enter Tryz.func180,Tryz.ntmps180
   go_wp2
   all_goals go_ret
   all_goals exact ⟨rfl,rfl⟩
  ·have d1 : decide (0 ≤ p) = false:=by simp;omega
   clear h1 hf hb hl h2
   go_enter Tryz.func180,Tryz.ntmps180
   go_wp2
   all_goals go_ret
   all_goals exact ⟨rfl,rfl⟩
set_option maxHeartbeats 1000000 in
theorem isRange_any (bv : Value) (l : List L1.Op1.Ins) (n : Nat) (h : Cf.Hn) (w : World) (hl : InR l n) (hb : BgR w bv l n) :
  Calls Tryz.prog 156 #[hnV h,bv] w fun e w'=>e = .returned (.bool (rngB l n h)) ∧ Below w.heap.size w w':=by
 have HI:=hid (fun p=>isAt_any (w.heap.size + 1) bv l n p ((w.alloc (.cells #[.int .i64 h.f,.int .i64 h.t,.int .i64 h.a,.int .i64 h.y] 58)).alloc (.cells #[bv] 190)) hl (hb.below BLw (Nat.le_refl _)) (by have:=L3.BX.new (w.alloc (.cells #[.int .i64 h.f,.int .i64 h.t,.int .i64 h.a,.int .i64 h.y] 58)) #[bv] 190;simpa using this))
 obtain ⟨a,cap,rfl⟩:=hb.len
 unfold rngB hnV
 obtain ⟨f,t,at0,y⟩:=h
 dsimp only at HI ⊢
 obtain ⟨b1,e1⟩ : ∃ b,b = Cf.begB l f:=⟨_,rfl⟩
 obtain ⟨b2,e2⟩ : ∃ b,b = Cf.begB l at0:=⟨_,rfl⟩
 obtain ⟨b3,e3⟩ : ∃ b,b = Cf.begB l t:=⟨_,rfl⟩
 rw [← e1,← e2,← e3]
 have E1:=hid (e1 ▸ HI.out f)
 have E2:=hid (e2 ▸ HI.out at0)
 have E3:=hid (e3 ▸ HI.out t)
 have hmf:=L3.A.mkF
 clear HI hl hb e1 e2 e3
 go_enter Tryz.func156,Tryz.ntmps156
 go_wp2_with (go_at_call 180;first|((with_reducible refine E1.out.mono ?_);rintro e _ ⟨rfl,rfl⟩)|((with_reducible refine E2.out.mono ?_);rintro e _ ⟨rfl,rfl⟩)|((with_reducible refine E3.out.mono ?_);rintro e _ ⟨rfl,rfl⟩))
 all_goals go_ret
 all_goals exact ⟨by first|(simp [*];done)|(simp [*];intros;omega),BLw⟩
set_option maxHeartbeats 1000000 in
theorem askHandler_any (P : List L3.Cp.C) (pv bv : Value) (l : List L1.Op1.Ins) (n qb pb : Nat) (h : Cf.Hn) (w : World) (hl : InR l n) (hb : BgR w bv l n) (hq : L3.BX w qb #[bv] 190) (hx : L3.BX w pb #[pv] 23) (hp : Kit.IsS 5 w pv P.length (P.flatMap L3.cL)) :
  Calls Tryz.prog 155 #[hnV h,.pointer (some ⟨qb,0,none⟩),.pointer (some ⟨pb,0,none⟩)] w fun e w'=>e = .returned (.int .i64 (Cf.hdE P l n h)) ∧ Below w.heap.size w w':=by
 rw [hdE_eq]
 have HR:=hid (fun W (k : Below w.heap.size w W)=>isRange_any bv l n h W hl (hb.below k (Nat.le_refl _)))
 have HC:=hid (fun W (k : Below w.heap.size w W)=>checkClassAt_any P h.y pv W (hp.below k (Nat.le_refl _)))
 obtain ⟨b,hbb⟩ : ∃ b,b = rngB l n h:=⟨_,rfl⟩
 rw [← hbb] at HR ⊢
 have c0:=hq.cell 0
 have c1:=hx.cell 0
 simp at c0 c1
 have hz1:=hq.sz
 have hz2:=hx.sz
 obtain ⟨ba,bc,rfl⟩:=hb.len
 obtain ⟨pa,pc,rfl⟩:=hp.len
 obtain ⟨f,t,at0,y⟩:=h
 unfold hnV at HR ⊢
 dsimp only at HR HC ⊢
 obtain ⟨pl,hpl⟩ : ∃ pl,pl = P.length:=⟨_,rfl⟩
 rw [← hpl] at HC c1
 obtain ⟨ce,hce⟩ : ∃ ce,ce = Cf.claE P y:=⟨_,rfl⟩
 rw [← hce] at HC ⊢
 clear hl hb hq hx hp hbb hpl hce
 cases b with
 | false =>
  rw [if_neg (by decide)]
  go_enter Tryz.func155,Tryz.ntmps155
  go_wp2_with (go_at_call 156;refine (HR.out _ BLw).mono ?_;rintro e w1 ⟨rfl,hb1⟩;have B1:=(belows1 hb1).2.2)
  go_ret
  exact ⟨rfl,B1⟩
 | true =>
  rw [if_pos rfl]
  by_cases hy : y = 0
  ·subst hy
   rw [if_pos rfl]
   go_enter Tryz.func155,Tryz.ntmps155
   go_wp2_with (go_at_call 156;refine (HR.out _ BLw).mono ?_;rintro e w1 ⟨rfl,hb1⟩;obtain ⟨bH,hzH,B1⟩:=belows1 hb1;have h3:=bH.cell 3;simp at h3)
   go_ret
   exact ⟨rfl,B1⟩
  ·rw [if_neg hy]
   have hd : (y == 0) = false:=by simpa using hy
   clear hy
   go_enter Tryz.func155,Tryz.ntmps155
   go_wp2_with (first
    | (go_at_call 156;refine (HR.out _ BLw).mono ?_;rintro e w1 ⟨rfl,hb1⟩;obtain ⟨bH,hzH,B1⟩:=belows1 hb1;have h3:=bH.cell 3;simp at h3;have c1:=(B1.cell (p:=⟨pb,0,none⟩) (by simpa using hz2)).trans c1)
    | (go_at_call 102;refine (HC.out _ B1).mono ?_;rintro e w2 ⟨rfl,hb2⟩;have B2:=belows B1 hb2 B1.size))
   go_ret
   exact ⟨rfl,B2⟩
set_option maxHeartbeats 2000000 in
theorem firstH_any (P : List L3.Cp.C) (pv bv hv : Value) (l : List L1.Op1.Ins) (n qb pb : Nat) (hs : List Cf.Hn) (w : World) (hl : InR l n) (hb : BgR w bv l n) (hq : L3.BX w qb #[bv] 190) (hx : L3.BX w pb #[pv] 23) (hp : Kit.IsS 5 w pv P.length (P.flatMap L3.cL)) (hh : Kit.IsS 4 w hv hs.length (hs.flatMap hL)) :
  Calls Tryz.prog 154 #[hv,.func (.func 155) #[] #[.pointer (some ⟨qb,0,none⟩),.pointer (some ⟨pb,0,none⟩)]] w fun e w'=>∃ er,Cf.FstR (Cf.HnIs P l n hs) hs.length er ∧ e = .returned (.int .i64 er) ∧ Below w.heap.size w w':=by
 have HA:=hid (fun h W (k : Below w.heap.size w W)=>askHandler_any P pv bv l n qb pb h W hl (hb.below k (Nat.le_refl _)) (hq.below k hq.sz) (hx.below k hx.sz) (hp.below k (Nat.le_refl _)))
 have HV:=hid (fun W (k : Below w.heap.size w W)=>hh.below k (Nat.le_refl _))
 obtain ⟨a,cap,rfl⟩:=hh.len
 have HL:=hid hh.2.1
 unfold hnV at HA
 clear hl hb hq hx hp hh
 go_enter Tryz.func154,Tryz.ntmps154
 go_wp2
 go_loopw [10] (fun i wr=>∃ k : Nat,k ≤ hs.length ∧ i = .int .i64 k ∧ Below w.heap.size w wr ∧ ∀ j,j < k → Cf.HnIs P l n hs j 0) (fun i _=>hs.length - (intOf i).toNat)
 case atStart=>exact ⟨0,by omega,rfl,BLw,fun j hj=>by omega⟩
 case round =>
  obtain ⟨k,hk,rfl,hJ,hall⟩:=hrel
  have HAll:=hid hall
  have hsz:=HL.out
  have hzw:=hJ.size
  by_cases hlt : k < hs.length
  ·obtain ⟨⟨f,t,at0,y⟩,hx⟩ : ∃ x,hs[k]? = some x:=⟨hs[k],List.getElem?_eq_getElem hlt⟩
   obtain ⟨b,o,cap',hv2,hbb,c0,c1,c2,c3⟩:=h_at (HV.out wr hJ) hx
   obtain ⟨rfl,-,rfl⟩:=Value.slice.inj hv2
   have hki : (k : Int) < (hs.length : Int):=by omega
   dsimp only at c0 c1 c2 c3
   have HR0:=hid (show Cf.HnIs P l n hs k (Cf.hdE P l n ⟨f,t,at0,y⟩) from ⟨_,hx,rfl⟩)
   have HA1:=HA.out ⟨f,t,at0,y⟩
   dsimp only at HA1
   obtain ⟨er,her⟩ : ∃ er,er = Cf.hdE P l n ⟨f,t,at0,y⟩:=⟨_,rfl⟩
   rw [← her] at HR0 HA1
   have HA2:=hid HA1
   clear hx hv2 hall HA1 her
   by_cases hz : er = 0
   ·subst hz
    go_wp2_with (go_at_call 155;refine (HA2.out _ BLw).mono ?_;rintro e W1 ⟨rfl,hb1⟩;have B1:=belows (B:=w.heap.size) (a:=w) BLw hb1 (by simp only [World.size_alloc];omega))
    go_roundw
    case rel=>exact ⟨k + 1,by omega,by go_num,B1,fun j hj=>by
     by_cases e : j = k
     ·subst e;exact HR0.out
     ·exact HAll.out j (by omega)⟩
    case measure=>simp [intOf];omega
   ·have hd : (er != 0) = true:=by simpa using hz
    have HZ:=hid hz
    clear hz
    go_wp2_with (go_at_call 155;refine (HA2.out _ BLw).mono ?_;rintro e W1 ⟨rfl,hb1⟩;have B1:=belows (B:=w.heap.size) (a:=w) BLw hb1 (by simp only [World.size_alloc];omega))
    go_ret
    exact ⟨_,Cf.FstR.at HAll.out hlt HR0.out HZ.out,rfl,B1⟩
  ·obtain rfl : k = hs.length:=by omega
   have hb:=hJ
   clear hall
   go_wp2
   go_ret
   exact ⟨0,Cf.FstR.all HAll.out,rfl,hb⟩
end Go.Proofs.YtnojgiflgmnjlaaGreatDoor
namespace Go.Proofs.YtnojgiflgmnjlaaGreatDoor
open Go.RowKit
theorem begB_snoc {l : List L1.Op1.Ins} {k : Nat} {x : L1.Op1.Ins} (h : l[k]? = some x) (p : Int) : Cf.begB (l.take (k + 1)) p = (Cf.begB (l.take k) p || x.p == p):=by
 unfold Cf.begB
 rw [List.take_add_one,h,List.any_append]
 simp
def BgS (w : World) (g n : Nat) (l : List L1.Op1.Ins) : Prop:=(∃ arr,w.heap[g]? = some (.cells arr 4 (0,0))) ∧ ∀ i,i < n → w.cell? ⟨g,i,none⟩ = some (.bool (Cf.begB l (i : Int)))
theorem BgS.below {w w' : World} {g n B : Nat} {l : List L1.Op1.Ins} (h : BgS w g n l) (hb : Below B w w') (hg : g < B) : BgS w' g n l:=by
 obtain ⟨⟨arr,h1⟩,h2⟩:=h
 exact ⟨⟨arr,(hb.block g hg).trans h1⟩,fun i hi=>(hb.cell (p:=⟨g,i,none⟩) (by simpa using hg)).trans (h2 i hi)⟩
theorem BgS.lt {w : World} {g n : Nat} {l : List L1.Op1.Ins} (h : BgS w g n l) : g < w.heap.size:=by
 obtain ⟨⟨arr,h1⟩,-⟩:=h
 exact (Array.getElem?_eq_some_iff.1 h1).1
theorem BgS.frozen {w : World} {g n : Nat} {l : List L1.Op1.Ins} (h : BgS w g n l) (i : Nat) : w.frozen? ⟨g,i,none⟩ = false:=by
 obtain ⟨⟨arr,h1⟩,-⟩:=h
 simp [World.frozen?,h1]
theorem BgS.step {w : World} {g n k : Nat} {l : List L1.Op1.Ins} {x : L1.Op1.Ins} (h : BgS w g n (l.take k)) (hx : l[k]? = some x) {p : Nat} (hp : x.p = (p : Int)) : BgS (w.setCell ⟨g,p,none⟩ (.bool true)) g n (l.take (k + 1)):=by
 obtain ⟨⟨arr,h1⟩,h2⟩:=h
 refine ⟨⟨arr.setIfInBounds p (.bool true),?_⟩,fun i hi=>?_⟩
 ·obtain ⟨hlt,hk⟩:=Array.getElem?_eq_some_iff.1 h1
  show (w.heap.modify g _)[g]? = _
  rw [Array.getElem?_eq_getElem (by rw [Array.size_modify];exact hlt),Array.getElem_modify_self,hk]
  rfl
 ·rw [Kit.cell_set (h2 i hi),begB_snoc hx,hp]
  congr 1
  by_cases e : p = i
  ·subst e;simp
  ·have : ((p : Int) == (i : Int)) = false:=by rw [beq_eq_false_iff_ne];intro h;exact e (by omega)
   rw [if_neg e,this,Bool.or_false]
theorem BgS.reads {w : World} {g n cap : Nat} {l : List L1.Op1.Ins} (h : BgS w g n l) (hn : n ≤ 140737488355328) (hc : n ≤ cap) : BgR w (.slice (some ⟨g,0,none⟩) n cap) l n:=by
 refine ⟨by simp,hn,.inr ⟨g,0,cap,rfl,hc,h.lt,fun i u hi=>?_⟩⟩
 rw [List.getElem?_map,Option.map_eq_some_iff] at hi
 obtain ⟨j,hj,rfl⟩:=hi
 obtain ⟨hlt,rfl⟩:=List.getElem?_eq_some_iff.1 hj
 rw [List.length_range] at hlt
 rw [List.getElem_range,Nat.zero_add]
 exact h.2 i hlt
theorem infoBool : (Tryz.prog.info? 4).map (fun i=>(i.zero,i.size,i.bytes)) = some (some (.bool false),1,1):=by kernel_rfl
theorem made_bool (n : Nat) : ∀ i,i < n → (madeCells (Value.bool false).cells (n * 1)).toList[i]? = some (.bool false):=by
 intro i hi
 have h:=L1.made_at (n * 1) i (by omega)
 rw [Array.getElem?_toList]
 exact h
theorem begS_new {w : World} {base g n : Nat} (h : w.ownsRow base 4 1 (.slice (some ⟨g,0,none⟩) n n) n (madeCells (Value.bool false).cells (n * 1)).toList) (hn : n ≤ 140737488355328) : BgS w g n ([] : List L1.Op1.Ins):=by
 constructor
 ·rcases h.2 with ⟨h1,-⟩|⟨g',cap,cur,h1,-,hh,-⟩
  ·cases h1
  ·obtain ⟨h2,-,-⟩:=Value.slice.inj h1
   obtain rfl : g = g':=by simpa using h2
   exact ⟨cur,hh⟩
 ·intro i hi
  rcases (Kit.isS_of_owns h hn).2.2 with ⟨h0,-⟩|⟨b,o,cap,hv,-,-,hc⟩
  ·omega
  ·obtain ⟨h2,-,-⟩:=Value.slice.inj hv
   have h3:=hc i _ (made_bool n i hi)
   have h4 : g = b ∧ 0 = o:=by simpa using h2
   obtain ⟨rfl,rfl⟩:=h4
   rw [Nat.zero_add] at h3
   exact h3
theorem dec_in {bs : List UInt8} {l : List L1.Op1.Ins} {d : Int} (h : L1.Op1.DecOut bs l d) (hd : d = 0) : InR l bs.length ∧ l.length ≤ 4096 ∧ bs.length ≤ 4096:=by
 cases h with
 | long h1=>cases hd
 | none h1=>cases hd
 | jump h1 h2 h3 h4=>cases hd
 | bad h1 h2 h3 h4=>exact absurd hd h4
 | ok h1 h2 h3 h4 =>
  obtain ⟨a,b,c⟩:=h3.le
  exact ⟨c,by omega,h1⟩
set_option maxHeartbeats 2000000 in
theorem checkCode_any (P : List L3.Cp.C) (pv : Value) (m : Cf.Mb) (cv hv : Value) (w : World) (ht : L1.Tabs w) (hp : Kit.IsS 5 w pv P.length (P.flatMap L3.cL)) (hB : L3.Bs w.heap.size w cv m.code) (hH : Kit.IsS 4 w hv m.hs.length (m.hs.flatMap hL)) (hc : m.code.length ≤ 140737488355328) :
  Calls Tryz.prog 112 #[pv,mbV m cv hv] w fun e w'=>∃ er,Cf.CoIs P m er ∧ e = .returned (.int .i64 er) ∧ Below w.heap.size w w':=by
 have HD:=hid (fun W (k : Below w.heap.size w W)=>L1.decode_any m.code cv W (ht.below k ht.size) (isB_of_bs ((hB.below k (Nat.le_refl _)).mono k.size) hc))
 have HF:=hid (fun bv l n qb W (k : Below w.heap.size w W) hl hb hq hx=>firstH_any P pv bv hv l n qb w.heap.size m.hs W hl hb hq hx (hp.below k (Nat.le_refl _)) (hH.below k (Nat.le_refl _)))
 have HO:=hid (fun er l d (h1 : L1.Op1.DecOut m.code l d) h2=>(⟨l,d,h1,h2⟩ : Cf.CoIs P m er))
 obtain ⟨i0,hi,hz0,hz1,hz2⟩:=info_parts infoBool
 obtain ⟨xa,xc,rfl⟩:=hB.len
 obtain ⟨ya,yc,rfl⟩:=hH.len
 obtain ⟨pa,pc,rfl⟩:=hp.len
 have hhl:=hH.2.1
 obtain ⟨ac,nm,ds,st,lc,co,hs9⟩:=m
 unfold mbV
 dsimp only at HD HF HO hhl ⊢
 unfold L1.DecPost at HD
 have hmf:=L3.A.mkF
 clear ht hp hB hH hc
 by_cases h64 : 64 < hs9.length
 ·have d64 : decide (64 < (hs9.length : Int)) = true:=by simp;omega
  have d65 : decide (64 < hs9.length) = true:=by simpa using h64
  go_enter Tryz.func112,Tryz.ntmps112
  go_wp2_with (go_at_call 153;refine (HD.out _ BLw).mono ?_;rintro e w1 ⟨lv,l,d,rfl,hd,ho,hb1⟩;obtain ⟨la,lc2,rfl⟩:=L3.own_form ho;obtain ⟨bP,bM,hzM,B1⟩:=boxes2 hb1;have m5:=bM.cell 5;have m6:=bM.cell 6;simp at m5 m6;have HDd:=hid hd;by_cases hz : d = 0;all_goals (first|(subst hz;clear hd ho)|(have hdd : (d != 0) = true:=(by simpa using hz);have HZ:=hid hz;clear hz hd ho)))
  ·go_ret
   exact ⟨3,HO.out 3 l 0 HDd.out (by rw [if_neg (by decide),if_pos h64]),rfl,B1⟩
  ·go_ret
   exact ⟨d,HO.out d l d HDd.out (by rw [if_pos HZ.out]),rfl,B1⟩
 ·have d64 : decide (64 < (hs9.length : Int)) = false:=by simp;omega
  have d65 : decide (64 < hs9.length) = false:=by simpa using h64
  go_enter Tryz.func112,Tryz.ntmps112
  go_wp2_with (first
   | (go_at_call 153;refine (HD.out _ BLw).mono ?_;rintro e w1 ⟨lv,l,d,rfl,hd,ho,hb1⟩;obtain ⟨la,lc2,rfl⟩:=L3.own_form ho;obtain ⟨bP,bM,hzM,B1⟩:=boxes2 hb1;have m5:=bM.cell 5;have m6:=bM.cell 6;simp at m5 m6;have HDd:=hid hd;by_cases hz : d = 0;all_goals (first|(subst hz;have hin:=dec_in hd rfl;have HIn:=hid hin.1;have hll:=hin.2.1;have hcl:=hin.2.2;have hIS:=Kit.isS_of_owns ho (by omega);have HIS:=hid hIS;clear hd ho hin hIS)|(have hdd : (d != 0) = true:=(by simpa using hz);have HZ:=hid hz;clear hz hd ho)))
   | (at_make;refine wpList_make_full _ rfl _ _ 190 rfl w.heap.size 4 i0 _ 1 Tryz.underlying190 hi hz0 hz1 _ _ _ _ co.length rfl rfl rfl rfl (by rw [hz2];omega) (by unfold maxLen;omega) (by have:=B1.size;omega) ?_;intro w2 own2 hg2))
  ·have hz2' : w1.heap.size < w2.heap.size:=by
    have:=begS_new own2 (by omega)
    exact this.lt
   have hBw1 : Below w1.heap.size w1 w2:=⟨hg2.os,hg2.tape,hg2.output,hg2.size,fun i hi=>hg2.block i hi (fun e=>by cases e)⟩
   have hbg:=begS_new own2 (by omega)
   have hb0:=hbg.below (w':=w2.alloc (.cells #[.slice (some ⟨w1.heap.size,0,none⟩) co.length co.length] 190)) ((Below.refl _ _).alloc (Nat.le_refl _) _) hz2'
   have hx0:=L3.BX.new w2 #[.slice (some ⟨w1.heap.size,0,none⟩) co.length co.length] 190
   have hB0 : Below w1.heap.size w1 (w2.alloc (.cells #[.slice (some ⟨w1.heap.size,0,none⟩) co.length co.length] 190)):=hBw1.alloc (by omega) _
   have S0:=hid (And.intro hb0 (And.intro hx0 hB0))
   have BP:=hid bP
   have BM:=hid bM
   have BB:=hid B1
   have hz9:=B1.size
   clear hbg hb0 hx0 hB0 own2 hg2 bP bM B1 hb1 hBw1
   go_loopw [29] (fun i wr=>∃ k : Nat,k ≤ l.length ∧ i = .int .i64 k ∧ BgS wr w1.heap.size co.length (l.take k) ∧ L3.BX wr w2.heap.size #[.slice (some ⟨w1.heap.size,0,none⟩) co.length co.length] 190 ∧ Below w1.heap.size w1 wr) (fun i _=>l.length - (intOf i).toNat)
   case atStart=>exact ⟨0,by omega,rfl,S0.out.1,S0.out.2.1,S0.out.2.2⟩
   case round =>
    obtain ⟨k,hk,rfl,hbs,hbx,hbl⟩:=hrel
    have hzr:=hbx.sz
    have cb:=hbx.cell 0
    simp at cb
    by_cases hlt : k < l.length
    ·obtain ⟨⟨xp,xop,x1,x2⟩,hx⟩ : ∃ x,l[k]? = some x:=⟨l[k],List.getElem?_eq_getElem hlt⟩
     obtain ⟨b,o,cap',hv2,hbb,c0,c1,c2,c3⟩:=L1.ins_at (HIS.out.below hbl (Nat.le_refl _)) hx
     obtain ⟨rfl,-,rfl⟩:=Value.slice.inj hv2
     obtain ⟨hp1,hp2⟩:=HIn.out _ (List.mem_of_getElem? hx)
     dsimp only at c0 c1 c2 c3 hp1 hp2
     obtain ⟨p,rfl⟩:=Int.eq_ofNat_of_zero_le hp1
     have hki : (k : Int) < (l.length : Int):=by omega
     have hpn : p < co.length:=by omega
     have hb1:=hbs.below (w':=wr.alloc (.cells #[.int .i64 p,.int .i64 xop,.int .i64 x1,.int .i64 x2] 192)) ((Below.refl _ _).alloc (Nat.le_refl _) _) hbs.lt
     have e0:=hb1.2 p hpn
     have e1:=hb1.frozen p
     have hst:=hbs.step hx (p:=p) rfl
     have HStep:=hid (hst.below (w':=(wr.setCell ⟨w1.heap.size,p,none⟩ (.bool true)).alloc (.cells #[.int .i64 p,.int .i64 xop,.int .i64 x1,.int .i64 x2] 192)) ((Below.refl _ _).alloc (Nat.le_refl _) _) hst.lt)
     have hgx:=hbx.grown (L3.set_grown wr w1.heap.size p (.bool true)) (fun e=>by have:=Option.some.inj e;omega)
     have HX2:=hid (hgx.below (w':=(wr.setCell ⟨w1.heap.size,p,none⟩ (.bool true)).alloc (.cells #[.int .i64 p,.int .i64 xop,.int .i64 x1,.int .i64 x2] 192)) ((Below.refl _ _).alloc (Nat.le_refl _) _) hgx.sz)
     clear hst hgx
     have hlt3:=hbs.lt
     clear hv2 hx hbs hb1 hp1
     go_wp2
     go_roundw
     case rel=>exact ⟨k + 1,by omega,by go_num,HStep.out,HX2.out,BLw⟩
     case measure=>simp [intOf];omega
    ·obtain rfl : k = l.length:=by omega
     rw [List.take_length] at hbs
     have hBm:=BM.out.below hbl BM.out.sz
     have hBp:=BP.out.below hbl BP.out.sz
     have m6:=hBm.cell 6
     simp at m6
     have hB9:=belows BB.out hbl BB.out.size
     have HF2:=hid (HF.out _ l co.length w2.heap.size wr hB9 HIn.out (hbs.reads (by omega) (Nat.le_refl _)) hbx hBp)
     clear hBm hBp hbs
     go_wp2_with (go_at_call 154;refine HF2.out.mono ?_;rintro e W1 ⟨er,hR,rfl,hb1⟩)
     go_ret
     exact ⟨er,HO.out er l 0 HDd.out (by rw [if_neg (by decide),if_neg h64];exact hR),rfl,belows hB9 hb1 hB9.size⟩
  ·go_ret
   exact ⟨d,HO.out d l d HDd.out (by rw [if_pos HZ.out]),rfl,B1⟩
end Go.Proofs.YtnojgiflgmnjlaaGreatDoor
namespace Go.Proofs.YtnojgiflgmnjlaaGreatDoor
open Go.RowKit
set_option maxHeartbeats 4000000 in
theorem askMethod_any (w0 : World) (vs : Array Value) (c : Cf.Cl) (ms : List Cf.Mb) (cb qb mb k : Nat) (m : Cf.Mb) (cv hv : Value) (W0 : World) (hP : ∀ x ∈ c.pool,x.s.size ≤ 140737488355328) (hl : ms.length < maxLen) (hk : ms[k]? = some m) (hj : MJ w0 vs c ms cb qb mb k W0)
  (ht : L1.Tabs w0) (hB : L3.Bs w0.heap.size w0 cv m.code) (hH : Kit.IsS 4 w0 hv m.hs.length (m.hs.flatMap hL)) (hc : m.code.length ≤ 140737488355328) :
  Calls Tryz.prog 108 #[mbV m cv hv,.pointer (some ⟨cb,0,none⟩),.pointer (some ⟨qb,0,none⟩)] W0 (AskPost w0 vs c ms cb qb mb k (Cf.MeIs c.pool ms k)):=by
 have hn0:=hj.b.size
 have HK0:=fun W (h : Below w0.heap.size w0 W)=>checkName_any c vs m cv hv W (hj.cl.below h (Nat.le_refl _))
 have hr : ∀ er,Cf.meIs c.pool (Cf.ahead c.pool ms k) m er → Cf.MeIs c.pool ms k er:=fun er h=>⟨m,hk,h⟩
 have hfit:=mb_fits hP m
 have hnm:=@nm_mb c.pool m
 have hne : ∀ W,MJ w0 vs c ms cb qb mb k W → (Cf.nmO c.pool m).2 = 0 → Calls Tryz.prog 107 #[.map (some mb),ndV (Cf.nmO c.pool m).1] W fun e w'=>e = .returned (.int .i64 (if Cf.inB (Cf.nmO c.pool m).1 (Cf.ahead c.pool ms k) = true then 5 else 0)) ∧ ((Cf.inB (Cf.nmO c.pool m).1 (Cf.ahead c.pool ms k) = false) → MJ w0 vs c ms cb qb mb (k + 1) w') ∧ W.grownBy w' (some mb) ∧ Below w0.heap.size w0 w':=by
  intro W h h0
  rw [hnm h0]
  refine (nadd_any mb (Cf.mbO c.pool m).1 (Cf.ahead c.pool ms k) W h.nm hfit (by unfold Cf.ahead;rw [List.length_map,List.length_take];omega)).mono ?_
  rintro e w' ⟨rfl,h1,h2⟩
  refine ⟨rfl,fun h3=>?_,h2,h.any h2⟩
  rw [if_neg (by rw [h3];decide)] at h1
  exact h.next hk h2 h1
 have J0:=hid hj
 obtain ⟨pv,fv,mv,hvs,hpv,-,-⟩:=hj.cl
 have HCc:=hid (fun W (h : Below w0.heap.size w0 W)=>checkCode_any c.pool pv m cv hv W (ht.below h ht.size) (hpv.below h (Nat.le_refl _)) ((hB.below h (Nat.le_refl _)).mono h.size) (hH.below h (Nat.le_refl _)) hc)
 have HI0:=fun W=>isStatic_any m cv hv W
 unfold Cf.meIs at hr
 obtain ⟨bi,hbi⟩ : ∃ b,b = Cf.inB (Cf.nmO c.pool m).1 (Cf.ahead c.pool ms k):=⟨_,rfl⟩
 rw [← hbi] at hr hne
 obtain ⟨⟨⟨n1,n2⟩,er⟩,hx⟩ : ∃ x,x = Cf.nmO c.pool m:=⟨_,rfl⟩
 rw [← hx] at HK0 hr hne
 dsimp only at HK0 hr hne
 have HF0:=fun W=>L2.method_any n2 W
 have hxl0:=@L2.mdOut_len (L2.Ds.bl n2)
 unfold L2.MOut L2.OwnT at HF0
 obtain ⟨⟨xs,⟨rk,rm⟩,fe⟩,hy⟩ : ∃ y,y = L2.mdOut (L2.Ds.bl n2):=⟨_,rfl⟩
 have hxl:=hxl0 hy.symm
 rw [← hy] at HF0 hr
 have HFr0:=fun av W (h : Kit.IsS 2 W av xs.length (xs.flatMap L2.tyC))=>checkFrame_any m cv hv av xs W h
 unfold L2.tyV at HF0
 unfold ndV at HK0 hne
 dsimp only at HF0 hr
 obtain ⟨fr,hfr⟩ : ∃ fr,fr = Cf.frE m xs:=⟨_,rfl⟩
 rw [← hfr] at hr HFr0
 obtain ⟨sb,hsb⟩ : ∃ sb,sb = Cf.statB m:=⟨_,rfl⟩
 rw [← hsb] at hr HI0
 have hin:=init_eq n1
 obtain ⟨nb,hnb⟩ : ∃ b,b = decide (n1 = Cf.initS):=⟨_,rfl⟩
 rw [← hnb] at hin
 have HNB:=hid hnb
 unfold mbV at HK0 HI0 HFr0 HCc ⊢
 have HXL:=hid hxl
 have HK:=hid HK0
 have HF:=hid HF0
 have HE:=hid hne
 have HR:=hid hr
 have HI:=hid HI0
 have HFr:=hid (fun W a c2=>HFr0 (.slice a xs.length c2) W)
 have HVS:=hid hvs
 unfold AskPost
 have hc0:=J0.out.qc
 have q0:=J0.out.cx.cell 0
 have q1:=J0.out.cx.cell 1
 have q2:=J0.out.cx.cell 2
 have q3:=J0.out.cx.cell 3
 have q4:=J0.out.cx.cell 4
 have q5:=J0.out.cx.cell 5
 have q6:=J0.out.cx.cell 6
 have q7:=J0.out.cx.cell 7
 rw [hvs] at q0 q1 q2 q3 q4 q5 q6 q7
 simp at q0 q1 q2 q3 q4 q5 q6 q7
 have hlt1:=J0.out.cx.sz
 have hlt2:=J0.out.qx.sz
 rw [hvs] at HK
 clear HK0 HF0 hne hr hx hy hbi hnb hk hP hl hfit hnm hvs hj ht hB hH hc hpv HI0 HFr0 hfr hsb hxl0 hxl
 by_cases h1 : er = 0
 focus
  subst h1
  by_cases h2 : fe = 0
  focus
   subst h2
   cases bi
   focus
    cases nb
    focus
     by_cases h6 : fr = 0
     focus
      subst h6
      have HL1:=hid True.intro
     rotate_left 1
     focus
      have hd2 : (fr != 0) = true:=by simpa using h6
      have H6:=hid h6
      clear h6
      have HL2:=hid True.intro
    rotate_left 2
    focus
     cases sb
     focus
      by_cases h5 : rk = 0
      focus
       have hd3 : (rk != 0) = false:=by simp [h5]
       have H5:=hid h5
       clear h5
       by_cases h6 : fr = 0
       focus
        subst h6
        have HL3:=hid True.intro
       rotate_left 1
       focus
        have hd2 : (fr != 0) = true:=by simpa using h6
        have H6:=hid h6
        clear h6
        have HL4:=hid True.intro
      rotate_left 2
      focus
       have hd2 : (rk != 0) = true:=by simpa using h5
       have H5:=hid h5
       clear h5
       have HL5:=hid True.intro
     rotate_left 3
     focus
      have HL6:=hid True.intro
   rotate_left 6
   focus
    have HL7:=hid True.intro
  rotate_left 7
  focus
   have hd : (fe != 0) = true:=by simpa using h2
   have H2:=hid h2
   clear h2
   have HL8:=hid True.intro
 rotate_left 8
 focus
  have hd : (er != 0) = true:=by simpa using h1
  have H1:=hid h1
  clear h1
  have HL9:=hid True.intro
 all_goals
  (go_enter Tryz.func108,Tryz.ntmps108;go_wp2_with (first|(go_at_call 105;(with_reducible refine (HK.out _ ?_).mono ?_);exact (J0.out.b.alloc hn0 _);rintro e W1 ⟨rfl,hb1⟩;obtain ⟨bM,hzM,B1⟩:=belows1 hb1;have J1:=hid (J0.out.below B1);have c0:=J1.out.qc;obtain ⟨m0,m1,m2,m3,m4,m5,m6⟩:=bM.cells7;have hW1 : W0.heap.size < W1.heap.size:=(by omega);have BMx:=hid bM;have BF1:=J1.out.b;have hzq:=J1.out.qx.sz;have hzw1:=J1.out.b.size;clear hb1 bM)|(go_at_call 109;(with_reducible refine (HF.out _).mono ?_);rintro e W2 ⟨av,rfl,hoT,hb2⟩;obtain ⟨aa,ac2,rfl⟩:=L3.own_form hoT;obtain ⟨bS,hzS,B2⟩:=belows1 hb2;have J2:=hid (J1.out.below B2);have c0:=J2.out.qc;have bM:=BMx.out.below B2 BMx.out.sz;have s0:=bS.cell 0;have s1:=bS.cell 1;have s2:=bS.cell 2;have m0:=bM.cell 0;have m1:=bM.cell 1;have m2:=bM.cell 2;have m3:=bM.cell 3;have m4:=bM.cell 4;have m5:=bM.cell 5;have m6:=bM.cell 6;simp at m0 m1 m2 m3 m4 m5 m6 s0 s1 s2;have hW2 : W1.heap.size < W2.heap.size:=(by omega);have hW3 : W0.heap.size < W2.heap.size:=(by omega);have J3:=hid (J2.out.below ((Below.refl W2.heap.size W2).alloc (Nat.le_refl _) (.cells #[.int .i64 rk,.string ⟨rm.toArray⟩] 132)));have c3:=J3.out.qc;have BF2:=J2.out.b;have OT:=hid (Kit.owns_below hoT ((Below.refl W2.heap.size W2).alloc (Nat.le_refl _) (.cells #[.int .i64 rk,.string ⟨rm.toArray⟩] 132)) (Nat.le_refl _));have hzOT : W1.heap.size < (W1.alloc (.cells #[.string ⟨#[]⟩,.string n1,.string n2] 44)).heap.size:=(by simp);have BM2:=hid (bM.below ((Below.refl W2.heap.size W2).alloc (Nat.le_refl _) (.cells #[.int .i64 rk,.string ⟨rm.toArray⟩] 132)) bM.sz);have BS2:=hid (bS.below ((Below.refl W2.heap.size W2).alloc (Nat.le_refl _) (.cells #[.int .i64 rk,.string ⟨rm.toArray⟩] 132)) bS.sz);have BT2:=hid (L3.BX.new W2 #[.int .i64 rk,.string ⟨rm.toArray⟩] 132);clear hb2 bM bS hoT)|(go_at_call 107;refine (HE.out _ J3.out (by first|rfl|trivial)).mono ?_;rintro e W3 ⟨rfl,hn3,hg3,hB3⟩;have hmb : mb < W0.heap.size:=J0.out.nm.lt;have bM:=BM2.out.grown hg3 (fun e=>by (have:=Option.some.inj e;omega));have bS:=BS2.out.grown hg3 (fun e=>by (have:=Option.some.inj e;omega));have bT:=BT2.out.grown hg3 (fun e=>by (have:=Option.some.inj e;omega));have s1:=bS.cell 1;have m0:=bM.cell 0;have m1:=bM.cell 1;have m2:=bM.cell 2;have m3:=bM.cell 3;have m4:=bM.cell 4;have m5:=bM.cell 5;have m6:=bM.cell 6;have t0:=bT.cell 0;simp at m0 m1 m2 m3 m4 m5 m6 s1 t0;have hz3:=hg3.size;have IT:=hid (Kit.isS_of_owns (Kit.owns_grown OT.out hg3 (by omega)) HXL.out);(try (have J4:=hid (hn3 (by first|rfl|trivial));have q2:=J4.out.cx.cell 2;rw [HVS.out] at q2;simp at q2));clear hn3)|(go_at_call 110;refine (HI.out _).mono ?_;rintro e W4 ⟨rfl,hb4⟩;have bM:=bM.below hb4 bM.sz;have bT:=bT.below hb4 bT.sz;have m0:=bM.cell 0;have m1:=bM.cell 1;have m2:=bM.cell 2;have m3:=bM.cell 3;have m4:=bM.cell 4;have m5:=bM.cell 5;have m6:=bM.cell 6;have t0:=bT.cell 0;simp at m0 m1 m2 m3 m4 m5 m6 t0;have J4:=hid (J4.out.below hb4);have q2:=J4.out.cx.cell 2;rw [HVS.out] at q2;simp at q2;have IT:=hid (IT.out.below hb4 (Nat.le_refl _));have hB3:=J4.out.b)|(go_at_call 111;refine (HFr.out _ _ _ IT.out).mono ?_;rintro e W4 ⟨rfl,hb4⟩;have bM:=bM.below hb4 bM.sz;have bT:=bT.below hb4 bT.sz;have m0:=bM.cell 0;have m1:=bM.cell 1;have m2:=bM.cell 2;have m3:=bM.cell 3;have m4:=bM.cell 4;have m5:=bM.cell 5;have m6:=bM.cell 6;have t0:=bT.cell 0;simp at m0 m1 m2 m3 m4 m5 m6 t0;have J4:=hid (J4.out.below hb4);have q2:=J4.out.cx.cell 2;rw [HVS.out] at q2;simp at q2;have IT:=hid (IT.out.below hb4 (Nat.le_refl _));have hB3:=J4.out.b)|(go_at_call 112;refine (HCc.out _ J4.out.b).mono ?_;rintro e W4 ⟨er,hco,rfl,hb4⟩;have J4:=hid (J4.out.below hb4);have hB3:=J4.out.b));go_ret)
  (first
   | (have _g:=HL1;exact ⟨er,HR.out er (by have hn:=of_decide_eq_false HNB.out.symm;simp [hn];exact hco),rfl,fun _=>J4.out,hB3⟩)
   | (have _g:=HL2;exact ⟨fr,HR.out fr (by have hn:=of_decide_eq_false HNB.out.symm;have h6:=H6.out;simp [hn,h6]),rfl,fun h=>absurd h H6.out,hB3⟩)
   | (have _g:=HL3;exact ⟨er,HR.out er (by have hn:=of_decide_eq_true HNB.out.symm;have h5:=H5.out;simp [hn,h5];exact hco),rfl,fun _=>J4.out,hB3⟩)
   | (have _g:=HL4;exact ⟨fr,HR.out fr (by have hn:=of_decide_eq_true HNB.out.symm;have h6:=H6.out;have h5:=H5.out;simp [hn,h5,h6]),rfl,fun h=>absurd h H6.out,hB3⟩)
   | (have _g:=HL5;exact ⟨45,HR.out 45 (by have hn:=of_decide_eq_true HNB.out.symm;have h5:=H5.out;simp [hn,h5]),rfl,fun h=>(by cases h),hB3⟩)
   | (have _g:=HL6;exact ⟨45,HR.out 45 (by have hn:=of_decide_eq_true HNB.out.symm;simp [hn]),rfl,fun h=>(by cases h),hB3⟩)
   | (have _g:=HL7;exact ⟨5,HR.out 5 (by simp),rfl,fun h=>(by cases h),hB3⟩)
   | (have _g:=HL8;exact ⟨fe,HR.out fe (by rw [if_neg (by decide),if_pos H2.out]),rfl,fun h=>absurd h H2.out,BLw⟩)
   | (have _g:=HL9;exact ⟨er,HR.out er (by rw [if_pos H1.out]),rfl,fun h=>absurd h H1.out,BLw⟩))
end Go.Proofs.YtnojgiflgmnjlaaGreatDoor
namespace Go.Proofs.YtnojgiflgmnjlaaGreatDoor
open Go.RowKit
set_option maxHeartbeats 2000000 in
theorem firstM_any (w0 : World) (vs : Array Value) (c : Cf.Cl) (ms : List Cf.Mb) (mv : Value) (cb qb mb : Nat) (W0 : World) (hP : ∀ x ∈ c.pool,x.s.size ≤ 140737488355328) (hl : ms.length < maxLen) (hv : MsR w0 mv ms) (hj : MJ w0 vs c ms cb qb mb 0 W0) (ht : L1.Tabs w0) :
  Calls Tryz.prog 103 #[mv,.func (.func 108) #[] #[.pointer (some ⟨cb,0,none⟩),.pointer (some ⟨qb,0,none⟩)]] W0 fun e W'=>∃ er,Cf.FstR (Cf.MeIs c.pool ms) ms.length er ∧ e = .returned (.int .i64 er) ∧ Below w0.heap.size w0 W':=by
 have HA:=hid (fun k m cv hv W (hk : ms[k]? = some m) (hj : MJ w0 vs c ms cb qb mb k W) hB hH hc=>askMethod_any w0 vs c ms cb qb mb k m cv hv W hP hl hk hj ht hB hH hc)
 have HV0:=hid hv
 obtain ⟨a,cap,rfl⟩:=hv.len
 have J00:=hid hj
 have HL:=hid hv.size
 unfold AskPost mbV at HA
 clear hv hj hP hl ht
 go_enter Tryz.func103,Tryz.ntmps103
 go_wp2
 go_loopw [10] (fun i wr=>∃ k : Nat,k ≤ ms.length ∧ i = .int .i64 k ∧ MJ w0 vs c ms cb qb mb k wr ∧ ∀ j,j < k → Cf.MeIs c.pool ms j 0) (fun i _=>ms.length - (intOf i).toNat)
 case atStart=>exact ⟨0,by omega,rfl,J00.out,fun j hj=>by omega⟩
 case round =>
  obtain ⟨k,hk,rfl,hJ,hall⟩:=hrel
  have HAll:=hid hall
  have hsz:=HL.out
  have HJ:=hid hJ
  by_cases hlt : k < ms.length
  ·obtain ⟨⟨ac,nm,ds,st,lc,co,hs9⟩,hx⟩ : ∃ x,ms[k]? = some x:=⟨ms[k],List.getElem?_eq_getElem hlt⟩
   obtain ⟨b,o,cap',cv,hw,hv2,hbb,hB,hH,hl,c0,c1,c2,c3,c4,c5,c6⟩:=HV0.out.at hx
   have c0:=(hJ.b.cell (p:=⟨b,o + k * 7,none⟩) (by simpa using hbb)).trans c0
   have c1:=(hJ.b.cell (p:=⟨b,o + k * 7 + 1,none⟩) (by simpa using hbb)).trans c1
   have c2:=(hJ.b.cell (p:=⟨b,o + k * 7 + 2,none⟩) (by simpa using hbb)).trans c2
   have c3:=(hJ.b.cell (p:=⟨b,o + k * 7 + 3,none⟩) (by simpa using hbb)).trans c3
   have c4:=(hJ.b.cell (p:=⟨b,o + k * 7 + 4,none⟩) (by simpa using hbb)).trans c4
   have c5:=(hJ.b.cell (p:=⟨b,o + k * 7 + 5,none⟩) (by simpa using hbb)).trans c5
   have c6:=(hJ.b.cell (p:=⟨b,o + k * 7 + 6,none⟩) (by simpa using hbb)).trans c6
   obtain ⟨rfl,-,rfl⟩:=Value.slice.inj hv2
   have hki : (k : Int) < (ms.length : Int):=by omega
   have HX:=hid hx
   dsimp only at c0 c1 c2 c3 c4 c5 c6
   obtain ⟨xa,xc,rfl⟩:=hB.len
   obtain ⟨ya,yc,rfl⟩:=hH.len
   have HBh:=hid (And.intro hB (And.intro hH hl))
   clear hx hv2 hall hJ hB hH
   go_wp2_with (go_at_call 108;refine (HA.out k ⟨ac,nm,ds,st,lc,co,hs9⟩ _ _ _ HX.out (HJ.out.below ((Below.refl wr.heap.size wr).alloc (Nat.le_refl _) _)) HBh.out.1 HBh.out.2.1 HBh.out.2.2).mono ?_;rintro e W1 ⟨er,hR,rfl,hn,hB1⟩;have HR:=hid hR;have HN:=hid hn;by_cases hz : er = 0;all_goals (first|(subst hz;clear hR hn)|(have hd : (er != 0) = true:=(by simpa using hz);have HZ:=hid hz;clear hz hR hn)))
   ·go_roundw
    case rel=>exact ⟨k + 1,by omega,by go_num,HN.out (by first|rfl|trivial),fun j hj=>by
     by_cases e : j = k
     ·subst e;exact HR.out
     ·exact HAll.out j (by omega)⟩
    case measure=>simp [intOf];omega
   ·go_ret
    exact ⟨_,Cf.FstR.at HAll.out hlt HR.out HZ.out,rfl,hB1⟩
  ·obtain rfl : k = ms.length:=by omega
   have hb:=HJ.out.b
   clear hJ hall
   go_wp2
   go_ret
   exact ⟨0,Cf.FstR.all HAll.out,rfl,hb⟩
set_option maxHeartbeats 1000000 in
theorem checkMethods_any (c : Cf.Cl) (vs : Array Value) (w : World) (h : ClR w vs c) (hP : ∀ x ∈ c.pool,x.s.size ≤ 140737488355328) (ht : L1.Tabs w) :
  Calls Tryz.prog 53 #[.agg vs] w fun e w'=>∃ er,Cf.FstR (Cf.MeIs c.pool c.ms) c.ms.length er ∧ e = .returned (.int .i64 er) ∧ Below w.heap.size w w':=by
 obtain ⟨pv,fv,mv,rfl,hp,hf,hm⟩:=h
 have hcl : ClR w #[.int .i64 c.mi,.int .i64 c.ma,pv,.int .i64 c.ac,.int .i64 c.th,.int .i64 c.su,fv,mv] c:=⟨pv,fv,mv,rfl,hp,hf,hm⟩
 have hl : c.ms.length < maxLen:=by have:=hm.size;unfold maxLen;omega
 have HF:=hid (fun W (hj : MJ w #[.int .i64 c.mi,.int .i64 c.ma,pv,.int .i64 c.ac,.int .i64 c.th,.int .i64 c.su,fv,mv] c c.ms w.heap.size (w.heap.size + 1 + 1) (w.heap.size + 1) 0 W)=>firstM_any w _ c c.ms mv w.heap.size (w.heap.size + 1 + 1) (w.heap.size + 1) W hP hl hm hj ht)
 have hj0 : MJ w #[.int .i64 c.mi,.int .i64 c.ma,pv,.int .i64 c.ac,.int .i64 c.th,.int .i64 c.su,fv,mv] c c.ms w.heap.size (w.heap.size + 1 + 1) (w.heap.size + 1) 0 (((w.alloc (.cells #[.int .i64 c.mi,.int .i64 c.ma,pv,.int .i64 c.ac,.int .i64 c.th,.int .i64 c.su,fv,mv] 26)).alloc (.map #[] 0)).alloc (.cells #[.map (some (w.heap.size + 1))] 129)):=by
  refine ⟨BLw,hcl,?_,?_,?_,Nat.le_refl _,by omega,by omega,by omega,by omega⟩
  ·exact ((L3.BX.new w _ _).below (n:=w.heap.size + 1) ((Below.refl _ _).alloc (by simp) _) (by omega)).below (n:=w.heap.size + 1) ((Below.refl _ _).alloc (by simp) _) (by omega)
  ·have:=L3.BX.new ((w.alloc (.cells #[.int .i64 c.mi,.int .i64 c.ma,pv,.int .i64 c.ac,.int .i64 c.th,.int .i64 c.su,fv,mv] 26)).alloc (.map #[] 0)) #[.map (some (w.heap.size + 1))] 129
   simpa using this
  ·have:=NmM.new (w.alloc (.cells #[.int .i64 c.mi,.int .i64 c.ma,pv,.int .i64 c.ac,.int .i64 c.th,.int .i64 c.su,fv,mv] 26))
   simp only [World.size_alloc] at this
   exact this.keep (((Below.refl _ _).alloc (Nat.le_refl _) _).block _ (by simp))
 have HJ0:=hid hj0
 have hmm:=@run_makeMap Tryz.prog
 clear hj0 hcl hp hP hl ht
 obtain ⟨fa,fc,rfl⟩:=hf.len
 obtain ⟨ma2,mc,rfl⟩:=hm.len
 clear hf hm
 go_enter Tryz.func53,Tryz.ntmps53
 go_wp2_with (go_at_call 103;refine (HF.out _ HJ0.out).mono ?_;rintro e W1 ⟨er,hR,rfl,hB1⟩)
 go_ret
 exact ⟨_,hR,rfl,hB1⟩
end Go.Proofs.YtnojgiflgmnjlaaGreatDoor
namespace Go.Proofs.YtnojgiflgmnjlaaGreatDoor
open Go.RowKit
def ClAt (P : List L3.Cp.C) (is : List Int) (k : Nat) (er : Int) : Prop:=∃ i,is[k]? = some i ∧ er = Cf.claE P i
theorem askClass_any (c : Cf.Cl) (vs : Array Value) (cb : Nat) (i : Int) (w : World) (h : ClR w vs c) (hx : L3.BX w cb vs 26) :
  Calls Tryz.prog 101 #[.int .i64 i,.pointer (some ⟨cb,0,none⟩)] w fun e w'=>e = .returned (.int .i64 (Cf.claE c.pool i)) ∧ Below w.heap.size w w':=by
 obtain ⟨pv,fv,mv,rfl,hp,-,-⟩:=h
 have HC:=hid (fun W (k : Below w.heap.size w W)=>checkClassAt_any c.pool i pv W (hp.below k (Nat.le_refl _)))
 have c2:=hx.cell 2
 simp at c2
 clear hp hx
 go_enter Tryz.func101,Tryz.ntmps101
 go_wp2_with (go_at_call 102;refine (HC.out _ BLw).mono ?_;rintro e w1 ⟨rfl,hb1⟩)
 go_ret
 exact ⟨rfl,hb1⟩
set_option maxHeartbeats 2000000 in
theorem firstI_any (c : Cf.Cl) (vs : Array Value) (cb : Nat) (is : List Int) (v : Value) (w : World) (h : ClR w vs c) (hx : L3.BX w cb vs 26) (hv : Kit.IsS 1 w v is.length (is.map fun i=>Value.int .i64 i)) :
  Calls Tryz.prog 100 #[v,.func (.func 101) #[] #[.pointer (some ⟨cb,0,none⟩)]] w fun e w'=>∃ er,Cf.FstR (ClAt c.pool is) is.length er ∧ e = .returned (.int .i64 er) ∧ Below w.heap.size w w':=by
 have HA:=hid (fun i W (k : Below w.heap.size w W)=>askClass_any c vs cb i W (h.below k (Nat.le_refl _)) (hx.below k hx.sz))
 have HV:=hid (fun W (k : Below w.heap.size w W)=>hv.below k (Nat.le_refl _))
 obtain ⟨a,cap,rfl⟩:=hv.len
 have HL:=hid hv.2.1
 clear h hx hv
 go_enter Tryz.func100,Tryz.ntmps100
 go_wp2
 go_loopw [10] (fun i wr=>∃ k : Nat,k ≤ is.length ∧ i = .int .i64 k ∧ Below w.heap.size w wr ∧ ∀ j,j < k → ClAt c.pool is j 0) (fun i _=>is.length - (intOf i).toNat)
 case atStart=>exact ⟨0,by omega,rfl,BLw,fun j hj=>by omega⟩
 case round =>
  obtain ⟨k,hk,rfl,hJ,hall⟩:=hrel
  have HAll:=hid hall
  have hsz:=HL.out
  have hzw:=hJ.size
  by_cases hlt : k < is.length
  ·obtain ⟨i,hx⟩ : ∃ x,is[k]? = some x:=⟨is[k],List.getElem?_eq_getElem hlt⟩
   obtain ⟨b,o,cap',hv2,-,hbb,hc⟩:=(HV.out wr hJ).some (by omega)
   obtain ⟨rfl,-,rfl⟩:=Value.slice.inj hv2
   have c0:=hc k (.int .i64 i) (by rw [List.getElem?_map,hx];rfl)
   have hki : (k : Int) < (is.length : Int):=by omega
   have HR0:=hid (show ClAt c.pool is k (Cf.claE c.pool i) from ⟨_,hx,rfl⟩)
   have HA1:=HA.out i
   obtain ⟨er,her⟩ : ∃ er,er = Cf.claE c.pool i:=⟨_,rfl⟩
   rw [← her] at HR0 HA1
   have HA2:=hid HA1
   clear hx hv2 hall HA1 her hc
   by_cases hz : er = 0
   ·subst hz
    go_wp2_with (go_at_call 101;refine (HA2.out _ BLw).mono ?_;rintro e W1 ⟨rfl,hb1⟩;have B1:=belows (B:=w.heap.size) (a:=w) BLw hb1 (by omega))
    go_roundw
    case rel=>exact ⟨k + 1,by omega,by go_num,B1,fun j hj=>by
     by_cases e : j = k
     ·subst e;exact HR0.out
     ·exact HAll.out j (by omega)⟩
    case measure=>simp [intOf];omega
   ·have hd : (er != 0) = true:=by simpa using hz
    have HZ:=hid hz
    clear hz
    go_wp2_with (go_at_call 101;refine (HA2.out _ BLw).mono ?_;rintro e W1 ⟨rfl,hb1⟩;have B1:=belows (B:=w.heap.size) (a:=w) BLw hb1 (by omega))
    go_ret
    exact ⟨_,Cf.FstR.at HAll.out hlt HR0.out HZ.out,rfl,B1⟩
  ·obtain rfl : k = is.length:=by omega
   have hb:=hJ
   clear hall
   go_wp2
   go_ret
   exact ⟨0,Cf.FstR.all HAll.out,rfl,hb⟩
theorem two_first {P : List L3.Cp.C} {a b er : Int} (h : Cf.FstR (ClAt P [a,b]) 2 er) : er = if Cf.claE P a ≠ 0 then Cf.claE P a else Cf.claE P b:=by
 rcases h with ⟨rfl,h⟩|⟨h0,k,hk,⟨i,hi,rfl⟩,h2⟩
 ·obtain ⟨i,hi,h1⟩:=h 0 (by omega)
  obtain ⟨j,hj,h2⟩:=h 1 (by omega)
  simp at hi hj
  subst hi hj
  rw [if_neg (by rw [← h1];decide),← h2]
 ·match k,hk with
  | 0,_ =>
   simp at hi
   subst hi
   rw [if_pos h0]
  | 1,_ =>
   simp at hi
   subst hi
   obtain ⟨j,hj,h1⟩:=h2 0 (by omega)
   simp at hj
   subst hj
   rw [if_neg (by rw [← h1];decide)]
end Go.Proofs.YtnojgiflgmnjlaaGreatDoor
namespace Go.Proofs.YtnojgiflgmnjlaaGreatDoor
open Go.RowKit
set_option maxHeartbeats 2000000 in
theorem checkHead_any (c : Cf.Cl) (vs : Array Value) (w : World) (ht : L3.Tabs w) (h : ClR w vs c) (hP : ∀ x ∈ c.pool,x.s.size ≤ 140737488355328) :
  Calls Tryz.prog 51 #[.agg vs] w fun e w'=>∃ er,Cf.HdIs c er ∧ e = .returned (.int .i64 er) ∧ Below w.heap.size w w':=by
 have hcl:=h
 obtain ⟨pv,fv,mv,rfl,hp,hf,hm⟩:=h
 have HVe:=hid (fun W=>isVersion_any c.mi c.ma W)
 have HCk:=hid (fun W (k : Below w.heap.size w W)=>L3.check_any c.pool pv W (ht.below k ht.size) (hp.below k (Nat.le_refl _)) hP)
 have HFi:=hid (fun (w1 : World) (k : Below w.heap.size w w1) (hx : L3.BX w1 w.heap.size #[.int .i64 c.mi,.int .i64 c.ma,pv,.int .i64 c.ac,.int .i64 c.th,.int .i64 c.su,fv,mv] 26) =>
  firstI_any c _ w.heap.size [c.th,c.su] (.slice (some ⟨w1.heap.size,0,none⟩) 2 2) (w1.alloc (.cells #[.int .i64 c.th,.int .i64 c.su] 3)) (hcl.below (k.alloc k.size _) (Nat.le_refl _)) (hx.below ((Below.refl _ _).alloc (Nat.le_refl _) _) hx.sz)
   ⟨rfl,by simp,.inr ⟨w1.heap.size,0,2,rfl,Nat.le_refl _,by simp,fun i u hu=>by
    match i,hu with
    | 0,hu=>simp at hu;subst hu;simp [go_sem]
    | 1,hu=>simp at hu;subst hu;simp [go_sem]⟩⟩)
 have hrR : ∀ er,(if Cf.verB c.mi c.ma = false then er = 41 else ∃ pk,L3.CkIs c.pool pk ∧ (if pk ≠ 0 then er = pk else if Cf.accB 33 c.ac = true then er = 42 else if Cf.claE c.pool c.th ≠ 0 then er = Cf.claE c.pool c.th
  else if Cf.claE c.pool c.su ≠ 0 then er = Cf.claE c.pool c.su else if 256 < c.fs.length ∨ 256 < c.ms.length then er = 3 else er = 0)) → Cf.HdIs c er:=fun er h=>h
 obtain ⟨pa,pc,rfl⟩:=hp.len
 obtain ⟨fa,fc,rfl⟩:=hf.len
 obtain ⟨ma2,mc,rfl⟩:=hm.len
 have hmf:=L3.A.mkF
 obtain ⟨vb,hvb⟩ : ∃ b,b = Cf.verB c.mi c.ma:=⟨_,rfl⟩
 rw [← hvb] at HVe hrR
 unfold Cf.accB at hrR
 obtain ⟨x,hbx⟩ : ∃ x,x = bits .andNot .i64 c.ac 33:=⟨_,rfl⟩
 rw [← hbx] at hrR
 have hbx2:=hbx.symm
 have HR:=hid hrR
 clear ht hp hf hm hcl hvb hbx hrR hP
 cases vb with
 | false =>
  (go_enter Tryz.func51,Tryz.ntmps51;go_wp2_with (first|(go_at_call 99;refine (HVe.out _).mono ?_;rintro e w9 ⟨rfl,rfl⟩)|(go_at_call 85;refine (HCk.out _ BLw).mono ?_;rintro e w1 ⟨pk,hck,rfl,hb1⟩;obtain ⟨bC,hzC,B1⟩:=belows1 hb1;have HCK1:=hid hck;have q3:=bC.cell 3;have q4:=bC.cell 4;have q5:=bC.cell 5;have q6:=bC.cell 6;have q7:=bC.cell 7;simp at q3 q4 q5 q6 q7;have BC:=hid bC;clear hb1 bC hck;by_cases hz : pk = 0;all_goals (first|subst hz|(have hdd : (pk != 0) = true:=(by simpa using hz);have HZ:=hid hz;clear hz)))|(go_at_call 100;refine (HFi.out w1 B1 BC.out).mono ?_;rintro e w2 ⟨fe,hfe,rfl,hb2⟩;have HFE:=hid (two_first hfe);have hz1a : w1.heap.size ≤ (w1.alloc (.cells #[.int .i64 c.th,.int .i64 c.su] 3)).heap.size:=(by simp);have B2 : Below w.heap.size w w2:=belows (B1.alloc (by omega) _) hb2 (by (try simp only [World.size_alloc]);omega);have bC2:=(BC.out.below (w':=w1.alloc (.cells #[.int .i64 c.th,.int .i64 c.su] 3)) ((Below.refl _ _).alloc (Nat.le_refl _) _) BC.out.sz).below hb2 (by simp only [World.size_alloc];omega);have q6:=bC2.cell 6;have q7:=bC2.cell 7;simp at q6 q7;clear hb2 bC2 hfe;by_cases hy : fe = 0;all_goals (first|subst hy|(have hdy : (fe != 0) = true:=(by simpa using hy);have HY:=hid hy;clear hy)))))
  go_ret
  exact ⟨41,HR.out 41 (by simp),rfl,BLw⟩
 | true =>
  by_cases hx : (x != 0) = true
  ·(go_enter Tryz.func51,Tryz.ntmps51;go_wp2_with (first|(go_at_call 99;refine (HVe.out _).mono ?_;rintro e w9 ⟨rfl,rfl⟩)|(go_at_call 85;refine (HCk.out _ BLw).mono ?_;rintro e w1 ⟨pk,hck,rfl,hb1⟩;obtain ⟨bC,hzC,B1⟩:=belows1 hb1;have HCK1:=hid hck;have q3:=bC.cell 3;have q4:=bC.cell 4;have q5:=bC.cell 5;have q6:=bC.cell 6;have q7:=bC.cell 7;simp at q3 q4 q5 q6 q7;have BC:=hid bC;clear hb1 bC hck;by_cases hz : pk = 0;all_goals (first|subst hz|(have hdd : (pk != 0) = true:=(by simpa using hz);have HZ:=hid hz;clear hz)))|(go_at_call 100;refine (HFi.out w1 B1 BC.out).mono ?_;rintro e w2 ⟨fe,hfe,rfl,hb2⟩;have HFE:=hid (two_first hfe);have hz1a : w1.heap.size ≤ (w1.alloc (.cells #[.int .i64 c.th,.int .i64 c.su] 3)).heap.size:=(by simp);have B2 : Below w.heap.size w w2:=belows (B1.alloc (by omega) _) hb2 (by (try simp only [World.size_alloc]);omega);have bC2:=(BC.out.below (w':=w1.alloc (.cells #[.int .i64 c.th,.int .i64 c.su] 3)) ((Below.refl _ _).alloc (Nat.le_refl _) _) BC.out.sz).below hb2 (by simp only [World.size_alloc];omega);have q6:=bC2.cell 6;have q7:=bC2.cell 7;simp at q6 q7;clear hb2 bC2 hfe;by_cases hy : fe = 0;all_goals (first|subst hy|(have hdy : (fe != 0) = true:=(by simpa using hy);have HY:=hid hy;clear hy)))))
   ·go_ret
    exact ⟨42,HR.out 42 (by rw [if_neg (by decide)];exact ⟨0,HCK1.out,by rw [if_neg (by decide),if_pos hx]⟩),rfl,B1⟩
   ·go_ret
    exact ⟨pk,HR.out pk (by rw [if_neg (by decide)];exact ⟨pk,HCK1.out,by rw [if_pos HZ.out]⟩),rfl,B1⟩
  ·have hx' : (x != 0) = false:=by simpa using hx
   have HX:=hid hx
   clear hx
   by_cases h1 : 256 < c.fs.length
   ·have d1 : decide (256 < (c.fs.length : Int)) = true:=by simp;omega
    have d2 : decide (256 < c.fs.length) = true:=by simpa using h1
    have H1:=hid h1
    clear h1
    (go_enter Tryz.func51,Tryz.ntmps51;go_wp2_with (first|(go_at_call 99;refine (HVe.out _).mono ?_;rintro e w9 ⟨rfl,rfl⟩)|(go_at_call 85;refine (HCk.out _ BLw).mono ?_;rintro e w1 ⟨pk,hck,rfl,hb1⟩;obtain ⟨bC,hzC,B1⟩:=belows1 hb1;have HCK1:=hid hck;have q3:=bC.cell 3;have q4:=bC.cell 4;have q5:=bC.cell 5;have q6:=bC.cell 6;have q7:=bC.cell 7;simp at q3 q4 q5 q6 q7;have BC:=hid bC;clear hb1 bC hck;by_cases hz : pk = 0;all_goals (first|subst hz|(have hdd : (pk != 0) = true:=(by simpa using hz);have HZ:=hid hz;clear hz)))|(go_at_call 100;refine (HFi.out w1 B1 BC.out).mono ?_;rintro e w2 ⟨fe,hfe,rfl,hb2⟩;have HFE:=hid (two_first hfe);have hz1a : w1.heap.size ≤ (w1.alloc (.cells #[.int .i64 c.th,.int .i64 c.su] 3)).heap.size:=(by simp);have B2 : Below w.heap.size w w2:=belows (B1.alloc (by omega) _) hb2 (by (try simp only [World.size_alloc]);omega);have bC2:=(BC.out.below (w':=w1.alloc (.cells #[.int .i64 c.th,.int .i64 c.su] 3)) ((Below.refl _ _).alloc (Nat.le_refl _) _) BC.out.sz).below hb2 (by simp only [World.size_alloc];omega);have q6:=bC2.cell 6;have q7:=bC2.cell 7;simp at q6 q7;clear hb2 bC2 hfe;by_cases hy : fe = 0;all_goals (first|subst hy|(have hdy : (fe != 0) = true:=(by simpa using hy);have HY:=hid hy;clear hy)))))
    ·go_ret
     exact ⟨3,HR.out 3 (by rw [if_neg (by decide)];refine ⟨0,HCK1.out,?_⟩;rw [if_neg (by decide),if_neg HX.out];have h9:=HFE.out;by_cases e1 : Cf.claE c.pool c.th = 0;(·rw [if_neg (by simpa using e1)] at h9;rw [if_neg (by simpa using e1),if_neg (by rw [← h9];decide)];rw [if_pos (.inl H1.out)]);(·rw [if_pos e1] at h9;exact absurd h9.symm e1)),rfl,B2⟩
    ·go_ret
     exact ⟨fe,HR.out fe (by rw [if_neg (by decide)];refine ⟨0,HCK1.out,?_⟩;rw [if_neg (by decide),if_neg HX.out];have h9:=HFE.out;by_cases e1 : Cf.claE c.pool c.th = 0;(·rw [if_neg (by simpa using e1)] at h9;rw [if_neg (by simpa using e1),if_pos (by rw [← h9];exact HY.out)];exact h9);(·rw [if_pos e1] at h9;rw [if_pos e1];exact h9)),rfl,B2⟩
    ·go_ret
     exact ⟨pk,HR.out pk (by rw [if_neg (by decide)];exact ⟨pk,HCK1.out,by rw [if_pos HZ.out]⟩),rfl,B1⟩
   ·have d1 : decide (256 < (c.fs.length : Int)) = false:=by simp;omega
    have d2 : decide (256 < c.fs.length) = false:=by simpa using h1
    have H1:=hid h1
    clear h1
    by_cases h2 : 256 < c.ms.length
    ·have d3 : decide (256 < (c.ms.length : Int)) = true:=by simp;omega
     have d4 : decide (256 < c.ms.length) = true:=by simpa using h2
     have H2:=hid h2
     clear h2
     (go_enter Tryz.func51,Tryz.ntmps51;go_wp2_with (first|(go_at_call 99;refine (HVe.out _).mono ?_;rintro e w9 ⟨rfl,rfl⟩)|(go_at_call 85;refine (HCk.out _ BLw).mono ?_;rintro e w1 ⟨pk,hck,rfl,hb1⟩;obtain ⟨bC,hzC,B1⟩:=belows1 hb1;have HCK1:=hid hck;have q3:=bC.cell 3;have q4:=bC.cell 4;have q5:=bC.cell 5;have q6:=bC.cell 6;have q7:=bC.cell 7;simp at q3 q4 q5 q6 q7;have BC:=hid bC;clear hb1 bC hck;by_cases hz : pk = 0;all_goals (first|subst hz|(have hdd : (pk != 0) = true:=(by simpa using hz);have HZ:=hid hz;clear hz)))|(go_at_call 100;refine (HFi.out w1 B1 BC.out).mono ?_;rintro e w2 ⟨fe,hfe,rfl,hb2⟩;have HFE:=hid (two_first hfe);have hz1a : w1.heap.size ≤ (w1.alloc (.cells #[.int .i64 c.th,.int .i64 c.su] 3)).heap.size:=(by simp);have B2 : Below w.heap.size w w2:=belows (B1.alloc (by omega) _) hb2 (by (try simp only [World.size_alloc]);omega);have bC2:=(BC.out.below (w':=w1.alloc (.cells #[.int .i64 c.th,.int .i64 c.su] 3)) ((Below.refl _ _).alloc (Nat.le_refl _) _) BC.out.sz).below hb2 (by simp only [World.size_alloc];omega);have q6:=bC2.cell 6;have q7:=bC2.cell 7;simp at q6 q7;clear hb2 bC2 hfe;by_cases hy : fe = 0;all_goals (first|subst hy|(have hdy : (fe != 0) = true:=(by simpa using hy);have HY:=hid hy;clear hy)))))
     ·go_ret
      exact ⟨3,HR.out 3 (by rw [if_neg (by decide)];refine ⟨0,HCK1.out,?_⟩;rw [if_neg (by decide),if_neg HX.out];have h9:=HFE.out;by_cases e1 : Cf.claE c.pool c.th = 0;(·rw [if_neg (by simpa using e1)] at h9;rw [if_neg (by simpa using e1),if_neg (by rw [← h9];decide)];rw [if_pos (.inr H2.out)]);(·rw [if_pos e1] at h9;exact absurd h9.symm e1)),rfl,B2⟩
     ·go_ret
      exact ⟨fe,HR.out fe (by rw [if_neg (by decide)];refine ⟨0,HCK1.out,?_⟩;rw [if_neg (by decide),if_neg HX.out];have h9:=HFE.out;by_cases e1 : Cf.claE c.pool c.th = 0;(·rw [if_neg (by simpa using e1)] at h9;rw [if_neg (by simpa using e1),if_pos (by rw [← h9];exact HY.out)];exact h9);(·rw [if_pos e1] at h9;rw [if_pos e1];exact h9)),rfl,B2⟩
     ·go_ret
      exact ⟨pk,HR.out pk (by rw [if_neg (by decide)];exact ⟨pk,HCK1.out,by rw [if_pos HZ.out]⟩),rfl,B1⟩
    ·have d3 : decide (256 < (c.ms.length : Int)) = false:=by simp;omega
     have d4 : decide (256 < c.ms.length) = false:=by simpa using h2
     have H2:=hid h2
     clear h2
     (go_enter Tryz.func51,Tryz.ntmps51;go_wp2_with (first|(go_at_call 99;refine (HVe.out _).mono ?_;rintro e w9 ⟨rfl,rfl⟩)|(go_at_call 85;refine (HCk.out _ BLw).mono ?_;rintro e w1 ⟨pk,hck,rfl,hb1⟩;obtain ⟨bC,hzC,B1⟩:=belows1 hb1;have HCK1:=hid hck;have q3:=bC.cell 3;have q4:=bC.cell 4;have q5:=bC.cell 5;have q6:=bC.cell 6;have q7:=bC.cell 7;simp at q3 q4 q5 q6 q7;have BC:=hid bC;clear hb1 bC hck;by_cases hz : pk = 0;all_goals (first|subst hz|(have hdd : (pk != 0) = true:=(by simpa using hz);have HZ:=hid hz;clear hz)))|(go_at_call 100;refine (HFi.out w1 B1 BC.out).mono ?_;rintro e w2 ⟨fe,hfe,rfl,hb2⟩;have HFE:=hid (two_first hfe);have hz1a : w1.heap.size ≤ (w1.alloc (.cells #[.int .i64 c.th,.int .i64 c.su] 3)).heap.size:=(by simp);have B2 : Below w.heap.size w w2:=belows (B1.alloc (by omega) _) hb2 (by (try simp only [World.size_alloc]);omega);have bC2:=(BC.out.below (w':=w1.alloc (.cells #[.int .i64 c.th,.int .i64 c.su] 3)) ((Below.refl _ _).alloc (Nat.le_refl _) _) BC.out.sz).below hb2 (by simp only [World.size_alloc];omega);have q6:=bC2.cell 6;have q7:=bC2.cell 7;simp at q6 q7;clear hb2 bC2 hfe;by_cases hy : fe = 0;all_goals (first|subst hy|(have hdy : (fe != 0) = true:=(by simpa using hy);have HY:=hid hy;clear hy)))))
     ·go_ret
      exact ⟨0,HR.out 0 (by rw [if_neg (by decide)];refine ⟨0,HCK1.out,?_⟩;rw [if_neg (by decide),if_neg HX.out];have h9:=HFE.out;by_cases e1 : Cf.claE c.pool c.th = 0;(·rw [if_neg (by simpa using e1)] at h9;rw [if_neg (by simpa using e1),if_neg (by rw [← h9];decide)];rw [if_neg (by intro h;exact h.elim H1.out H2.out)]);(·rw [if_pos e1] at h9;exact absurd h9.symm e1)),rfl,B2⟩
     ·go_ret
      exact ⟨fe,HR.out fe (by rw [if_neg (by decide)];refine ⟨0,HCK1.out,?_⟩;rw [if_neg (by decide),if_neg HX.out];have h9:=HFE.out;by_cases e1 : Cf.claE c.pool c.th = 0;(·rw [if_neg (by simpa using e1)] at h9;rw [if_neg (by simpa using e1),if_pos (by rw [← h9];exact HY.out)];exact h9);(·rw [if_pos e1] at h9;rw [if_pos e1];exact h9)),rfl,B2⟩
     ·go_ret
      exact ⟨pk,HR.out pk (by rw [if_neg (by decide)];exact ⟨pk,HCK1.out,by rw [if_pos HZ.out]⟩),rfl,B1⟩
end Go.Proofs.YtnojgiflgmnjlaaGreatDoor
namespace Go.Proofs.YtnojgiflgmnjlaaGreatDoor
open Go.RowKit
set_option maxHeartbeats 2000000 in
theorem checkCodeName_any (c : Cf.Cl) (vs : Array Value) (w : World) (h : ClR w vs c) (hn : c.pool.length * 48 ≤ 140737488355328) :
  Calls Tryz.prog 54 #[.agg vs] w fun e w'=>∃ er,Cf.CnIs c er ∧ e = .returned (.int .i64 er) ∧ Below w.heap.size w w':=by
 have hr : Cf.CnIs c (if decide (Cf.cix c.pool ≠ 0) = false ∧ 0 < c.ms.length then 43 else 0):=⟨_,_,Cf.cix_fi c.pool,rfl⟩
 obtain ⟨pv,fv,mv,rfl,hp,hf,hm⟩:=h
 have HF0:=fun W (k : Below w.heap.size w W)=>findCode_any c.pool pv W (hp.below k (Nat.le_refl _)) hn
 obtain ⟨bx,hbx⟩ : ∃ b,b = decide (Cf.cix c.pool ≠ 0):=⟨_,rfl⟩
 rw [← hbx] at HF0 hr
 have HF:=hid HF0
 have HR:=hid hr
 have HUt:=hid (fun W=>utf8_any Cf.codeS W)
 have cfU:=fun (u : Value) (w : World)=>(show (callFunc 94 #[u]).run Tryz.prog w = .ok (.enter 94 #[u]) w by kernel_rfl)
 have cfF:=fun (u v : Value) (w : World)=>(show (callFunc 93 #[u,v]).run Tryz.prog w = .ok (.enter 93 #[u,v]) w by kernel_rfl)
 obtain ⟨pa,pc,rfl⟩:=hp.len
 obtain ⟨fa,fc,rfl⟩:=hf.len
 obtain ⟨ma2,mc,rfl⟩:=hm.len
 clear hp hf hm HF0 hr hbx hn
 go_enter Tryz.func54,Tryz.ntmps54
 go_wp2
 have bX:=L3.BX.new w #[.int .i64 c.mi,.int .i64 c.ma,.slice pa c.pool.length pc,.int .i64 c.ac,.int .i64 c.th,.int .i64 c.su,.slice fa c.fs.length fc,.slice ma2 c.ms.length mc] 26
 have B0 : Below w.heap.size w (w.alloc (.cells #[.int .i64 c.mi,.int .i64 c.ma,.slice pa c.pool.length pc,.int .i64 c.ac,.int .i64 c.th,.int .i64 c.su,.slice fa c.fs.length fc,.slice ma2 c.ms.length mc] 26)):=BLw
 obtain ⟨W,hW⟩ : ∃ W,W = w.alloc (.cells #[.int .i64 c.mi,.int .i64 c.ma,.slice pa c.pool.length pc,.int .i64 c.ac,.int .i64 c.th,.int .i64 c.su,.slice fa c.fs.length fc,.slice ma2 c.ms.length mc] 26):=⟨_,rfl⟩
 rw [← hW] at bX B0 ⊢
 have hzX:=bX.sz
 have c2:=bX.cell 2
 have c7:=bX.cell 7
 simp at c2 c7
 clear hW bX
 go_region_law (first
  | (have _g:=hbU;refine Kit.step_call2 rfl 93 (.tmp 7) (.tmp 8) 23 56 rfl _ _ rfl rfl (cfF _ _ _) _ (HF.out _ ?_) ?_;exact B8;rintro e w9 ⟨rfl,hbF⟩;refine ⟨_,rfl,?_⟩;have B9 : Below w.heap.size w w9:=(by first|exact belows B8 hbF B8.size|exact belows B8 (below_undrew hbF) B8.size);have c79:=((by first|exact hbF|exact below_undrew hbF : Below w8.heap.size w8 w9).cell (p:=⟨w.heap.size,7,none⟩) (by simpa using hzX8)).trans c78)
  | (refine Kit.step_call1 rfl 94 (.const (.string ⟨#[67,111,100,101]⟩)) 9 rfl _ rfl (cfU _ _) _ (HUt.out _) ?_;rintro e w8 ⟨rfl,hbU⟩;refine ⟨_,rfl,?_⟩;have B8' : Below W.heap.size W w8:=(by first|exact hbU|exact below_undrew hbU);have B8:=belows B0 B8' B0.size;have hzX8 : w.heap.size < w8.heap.size:=Nat.lt_of_lt_of_le hzX B8'.size;have c28:=(B8'.cell (p:=⟨w.heap.size,2,none⟩) (by simpa using hzX)).trans c2;have c78:=(B8'.cell (p:=⟨w.heap.size,7,none⟩) (by simpa using hzX)).trans c7))
 all_goals cases bx
 all_goals go_wp2
 all_goals go_ret
 all_goals
  have hr:=HR.out
  first
   | exact ⟨43,by simpa [*] using hr,rfl,B9⟩
   | exact ⟨0,by simpa [*] using hr,rfl,B9⟩
   | exact ⟨0,by (have : ¬ 0 < c.ms.length:=by omega);simpa [this] using hr,rfl,B9⟩
structure Ck (w : World) (c : Cf.Cl) : Prop where
 t1 : L1.Tabs w
 t3 : L3.Tabs w
 pl : c.pool.length * 48 ≤ 140737488355328
 ps : ∀ x ∈ c.pool,x.s.size ≤ 140737488355328
theorem Ck.below {w w' : World} {c : Cf.Cl} (h : Ck w c) (hb : Below w.heap.size w w') : Ck w' c:=⟨h.t1.below hb h.t1.size,h.t3.below hb h.t3.size,h.pl,h.ps⟩
def askF (i : Nat) : Value:=.func (.func (match i with|0=>51|1=>52|2=>53|_=>54)) #[] #[]
end Go.Proofs.YtnojgiflgmnjlaaGreatDoor
namespace Go.Proofs.YtnojgiflgmnjlaaGreatDoor
open Go.RowKit
theorem ask0_any (c : Cf.Cl) (vs : Array Value) (cb : Nat) (w : World) (hk : Ck w c) (h : ClR w vs c) (hx : L3.BX w cb vs 26) :
  Calls Tryz.prog 56 #[.func (.func 51) #[] #[],.pointer (some ⟨cb,0,none⟩)] w fun e w'=>∃ er,Cf.AskIs c 0 er ∧ e = .returned (.int .i64 er) ∧ Below w.heap.size w w':=by
 have HC:=hid (show Calls Tryz.prog 51 #[.agg vs] w fun e w'=>∃ er,Cf.AskIs c 0 er ∧ e = .returned (.int .i64 er) ∧ Below w.heap.size w w' from checkHead_any c vs w hk.t3 h hk.ps)
 obtain ⟨pv,fv,mv,rfl,hp,hf,hm⟩:=h
 have q0:=hx.cell 0
 have q1:=hx.cell 1
 have q2:=hx.cell 2
 have q3:=hx.cell 3
 have q4:=hx.cell 4
 have q5:=hx.cell 5
 have q6:=hx.cell 6
 have q7:=hx.cell 7
 simp at q0 q1 q2 q3 q4 q5 q6 q7
 clear hp hf hm hx hk
 go_enter Tryz.func56,Tryz.ntmps56
 go_wp2_with (go_at_call 51;refine HC.out.mono ?_;rintro e w1 ⟨er,hR,rfl,hb⟩)
 go_ret
 exact ⟨er,hR,rfl,hb⟩
theorem ask1_any (c : Cf.Cl) (vs : Array Value) (cb : Nat) (w : World) (hk : Ck w c) (h : ClR w vs c) (hx : L3.BX w cb vs 26) :
  Calls Tryz.prog 56 #[.func (.func 52) #[] #[],.pointer (some ⟨cb,0,none⟩)] w fun e w'=>∃ er,Cf.AskIs c 1 er ∧ e = .returned (.int .i64 er) ∧ Below w.heap.size w w':=by
 have HC:=hid (show Calls Tryz.prog 52 #[.agg vs] w fun e w'=>∃ er,Cf.AskIs c 1 er ∧ e = .returned (.int .i64 er) ∧ Below w.heap.size w w' from checkFields_any c vs w h hk.ps)
 obtain ⟨pv,fv,mv,rfl,hp,hf,hm⟩:=h
 have q0:=hx.cell 0
 have q1:=hx.cell 1
 have q2:=hx.cell 2
 have q3:=hx.cell 3
 have q4:=hx.cell 4
 have q5:=hx.cell 5
 have q6:=hx.cell 6
 have q7:=hx.cell 7
 simp at q0 q1 q2 q3 q4 q5 q6 q7
 clear hp hf hm hx hk
 go_enter Tryz.func56,Tryz.ntmps56
 go_wp2_with (go_at_call 52;refine HC.out.mono ?_;rintro e w1 ⟨er,hR,rfl,hb⟩)
 go_ret
 exact ⟨er,hR,rfl,hb⟩
theorem ask2_any (c : Cf.Cl) (vs : Array Value) (cb : Nat) (w : World) (hk : Ck w c) (h : ClR w vs c) (hx : L3.BX w cb vs 26) :
  Calls Tryz.prog 56 #[.func (.func 53) #[] #[],.pointer (some ⟨cb,0,none⟩)] w fun e w'=>∃ er,Cf.AskIs c 2 er ∧ e = .returned (.int .i64 er) ∧ Below w.heap.size w w':=by
 have HC:=hid (show Calls Tryz.prog 53 #[.agg vs] w fun e w'=>∃ er,Cf.AskIs c 2 er ∧ e = .returned (.int .i64 er) ∧ Below w.heap.size w w' from checkMethods_any c vs w h hk.ps hk.t1)
 obtain ⟨pv,fv,mv,rfl,hp,hf,hm⟩:=h
 have q0:=hx.cell 0
 have q1:=hx.cell 1
 have q2:=hx.cell 2
 have q3:=hx.cell 3
 have q4:=hx.cell 4
 have q5:=hx.cell 5
 have q6:=hx.cell 6
 have q7:=hx.cell 7
 simp at q0 q1 q2 q3 q4 q5 q6 q7
 clear hp hf hm hx hk
 go_enter Tryz.func56,Tryz.ntmps56
 go_wp2_with (go_at_call 53;refine HC.out.mono ?_;rintro e w1 ⟨er,hR,rfl,hb⟩)
 go_ret
 exact ⟨er,hR,rfl,hb⟩
theorem ask3_any (c : Cf.Cl) (vs : Array Value) (cb : Nat) (w : World) (hk : Ck w c) (h : ClR w vs c) (hx : L3.BX w cb vs 26) :
  Calls Tryz.prog 56 #[.func (.func 54) #[] #[],.pointer (some ⟨cb,0,none⟩)] w fun e w'=>∃ er,Cf.AskIs c 3 er ∧ e = .returned (.int .i64 er) ∧ Below w.heap.size w w':=by
 have HC:=hid (show Calls Tryz.prog 54 #[.agg vs] w fun e w'=>∃ er,Cf.AskIs c 3 er ∧ e = .returned (.int .i64 er) ∧ Below w.heap.size w w' from checkCodeName_any c vs w h hk.pl)
 obtain ⟨pv,fv,mv,rfl,hp,hf,hm⟩:=h
 have q0:=hx.cell 0
 have q1:=hx.cell 1
 have q2:=hx.cell 2
 have q3:=hx.cell 3
 have q4:=hx.cell 4
 have q5:=hx.cell 5
 have q6:=hx.cell 6
 have q7:=hx.cell 7
 simp at q0 q1 q2 q3 q4 q5 q6 q7
 clear hp hf hm hx hk
 go_enter Tryz.func56,Tryz.ntmps56
 go_wp2_with (go_at_call 54;refine HC.out.mono ?_;rintro e w1 ⟨er,hR,rfl,hb⟩)
 go_ret
 exact ⟨er,hR,rfl,hb⟩
theorem ask_any (c : Cf.Cl) (vs : Array Value) (cb : Nat) (i : Nat) (hi : i < 4) (w : World) (hk : Ck w c) (h : ClR w vs c) (hx : L3.BX w cb vs 26) :
  Calls Tryz.prog 56 #[askF i,.pointer (some ⟨cb,0,none⟩)] w fun e w'=>∃ er,Cf.AskIs c i er ∧ e = .returned (.int .i64 er) ∧ Below w.heap.size w w':=by
 match i,hi with
 | 0,_=>exact ask0_any c vs cb w hk h hx
 | 1,_=>exact ask1_any c vs cb w hk h hx
 | 2,_=>exact ask2_any c vs cb w hk h hx
 | 3,_=>exact ask3_any c vs cb w hk h hx
set_option maxHeartbeats 2000000 in
theorem firstC_any (c : Cf.Cl) (vs : Array Value) (cb sb : Nat) (w : World) (hk : Ck w c) (h : ClR w vs c) (hx : L3.BX w cb vs 26) (hs : L3.BX w sb #[askF 0,askF 1,askF 2,askF 3] 35) :
  Calls Tryz.prog 55 #[.slice (some ⟨sb,0,none⟩) 4 4,.func (.func 56) #[] #[.pointer (some ⟨cb,0,none⟩)]] w fun e w'=>∃ er,Cf.ClIs c er ∧ e = .returned (.int .i64 er) ∧ Below w.heap.size w w':=by
 have HA:=hid (fun i hi W (k : Below w.heap.size w W)=>ask_any c vs cb i hi W (hk.below k) (h.below k (Nat.le_refl _)) (hx.below k hx.sz))
 have HS:=hid (fun W (k : Below w.heap.size w W) (j : Nat)=>(k.cell (p:=⟨sb,j,none⟩) (by simpa using hs.sz)).trans (hs.cell j))
 unfold Cf.ClIs
 clear hk h hx hs
 go_enter Tryz.func55,Tryz.ntmps55
 go_wp2
 go_loopw [10] (fun i wr=>∃ k : Nat,k ≤ 4 ∧ i = .int .i64 k ∧ Below w.heap.size w wr ∧ ∀ j,j < k → Cf.AskIs c j 0) (fun i _=>4 - (intOf i).toNat)
 case atStart=>exact ⟨0,by omega,rfl,BLw,fun j hj=>by omega⟩
 case round =>
  obtain ⟨k,hk,rfl,hJ,hall⟩:=hrel
  have HAll:=hid hall
  have hzw:=hJ.size
  by_cases hlt : k < 4
  ·have c0:=HS.out wr hJ k
   have hc : (#[askF 0,askF 1,askF 2,askF 3] : Array Value)[k]? = some (askF k):=by
    match k,hlt with
    | 0,_|1,_|2,_|3,_=>rfl
   rw [hc] at c0
   have HA1:=hid (HA.out k hlt wr hJ)
   have hki : (k : Int) < 4:=by omega
   obtain ⟨fv,hfv⟩ : ∃ fv,fv = askF k:=⟨_,rfl⟩
   rw [← hfv] at c0 HA1
   clear hc hfv hall
   go_wp2_with (go_at_call 56;refine HA1.out.mono ?_;rintro e W1 ⟨er,hR,rfl,hb1⟩;have HR:=hid hR;have B1:=belows hJ hb1 hzw;by_cases hz : er = 0;all_goals (first|(subst hz;clear hR)|(have hd : (er != 0) = true:=(by simpa using hz);have HZ:=hid hz;clear hz hR)))
   ·go_roundw
    case rel=>exact ⟨k + 1,by omega,by go_num,B1,fun j hj=>by
     by_cases e : j = k
     ·subst e;exact HR.out
     ·exact HAll.out j (by omega)⟩
    case measure=>simp [intOf];omega
   ·go_ret
    exact ⟨er,Cf.FstR.at HAll.out hlt HR.out HZ.out,rfl,B1⟩
  ·obtain rfl : k = 4:=by omega
   have hb:=hJ
   clear hall
   go_wp2
   go_ret
   exact ⟨0,Cf.FstR.all HAll.out,rfl,hb⟩
set_option maxHeartbeats 1000000 in
theorem check_any (c : Cf.Cl) (vs : Array Value) (w : World) (hk : Ck w c) (h : ClR w vs c) :
  Calls Tryz.prog 17 #[.agg vs] w fun e w'=>∃ er,Cf.ClIs c er ∧ e = .returned (.int .i64 er) ∧ Below w.heap.size w w':=by
 have HF:=hid (fun W (k : Below w.heap.size w W) hx hs=>firstC_any c vs w.heap.size (w.heap.size + 1) W (hk.below k) (h.below k (Nat.le_refl _)) hx hs)
 have hcl:=h
 obtain ⟨pv,fv,mv,rfl,hp,hf,hm⟩:=h
 have hmf:=L3.A.mkF
 have hB : Below w.heap.size w ((w.alloc (.cells #[.int .i64 c.mi,.int .i64 c.ma,pv,.int .i64 c.ac,.int .i64 c.th,.int .i64 c.su,fv,mv] 26)).alloc (.cells #[askF 0,askF 1,askF 2,askF 3] 35)):=BLw
 have hx:=(L3.BX.new w #[.int .i64 c.mi,.int .i64 c.ma,pv,.int .i64 c.ac,.int .i64 c.th,.int .i64 c.su,fv,mv] 26).below (n:=w.heap.size + 1) (w':=(w.alloc (.cells #[.int .i64 c.mi,.int .i64 c.ma,pv,.int .i64 c.ac,.int .i64 c.th,.int .i64 c.su,fv,mv] 26)).alloc (.cells #[askF 0,askF 1,askF 2,askF 3] 35)) ((Below.refl _ _).alloc (by simp) _) (by omega)
 have hs : L3.BX ((w.alloc (.cells #[.int .i64 c.mi,.int .i64 c.ma,pv,.int .i64 c.ac,.int .i64 c.th,.int .i64 c.su,fv,mv] 26)).alloc (.cells #[askF 0,askF 1,askF 2,askF 3] 35)) (w.heap.size + 1) #[askF 0,askF 1,askF 2,askF 3] 35:=by
  have:=L3.BX.new (w.alloc (.cells #[.int .i64 c.mi,.int .i64 c.ma,pv,.int .i64 c.ac,.int .i64 c.th,.int .i64 c.su,fv,mv] 26)) #[askF 0,askF 1,askF 2,askF 3] 35
  simpa using this
 have H2:=hid (HF.out _ hB hx hs)
 unfold askF at H2
 have HB:=hid hB
 clear HF hk hcl hp hf hm hx hs hB
 go_enter Tryz.func17,Tryz.ntmps17
 go_wp2_with (go_at_call 55;refine H2.out.mono ?_;rintro e W1 ⟨er,hR,rfl,hb1⟩)
 go_ret
 exact ⟨er,hR,rfl,belows HB.out hb1 HB.out.size⟩
end Go.Proofs.YtnojgiflgmnjlaaGreatDoor
