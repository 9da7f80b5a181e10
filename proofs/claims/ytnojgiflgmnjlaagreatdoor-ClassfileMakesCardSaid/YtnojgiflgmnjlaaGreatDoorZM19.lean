/- Own texts for the claim, part 19. -/
import Derived.Test.YtnojgiflgmnjlaaGreatDoorZM18
set_option maxRecDepth 100000
namespace Go.Proofs.YtnojgiflgmnjlaaGreatDoor
open Go.RowKit
def Cf.Szc (c : Cf.Cl) : Prop:=c.pool.length * 48 ≤ 140737488355328 ∧ c.fs.length * 88 ≤ 140737488355328 ∧ c.ms.length * 88 ≤ 140737488355328 ∧ (∀ m ∈ c.fs,m.hs.length * 32 ≤ 140737488355328) ∧ ∀ m ∈ c.ms,m.hs.length * 32 ≤ 140737488355328
theorem OMs.form {w : World} {base : Nat} {v : Value} {ms : List Cf.Mb} (h : OMs w base v ms) : ∃ a cap,v = .slice a ms.length cap:=by
 obtain ⟨rs,-,h2⟩:=h
 exact L3.own_form h2
def ApV (vs : Array Value) : Prop:=∀ k,(vs.getD 6 (.bool false)).ownBlock = some k → (vs.getD 7 (.bool false)).ownBlock ≠ some k
theorem OMs.lt {w : World} {base : Nat} {v : Value} {ms : List Cf.Mb} (h : OMs w base v ms) : ∀ k,v.ownBlock = some k → k < w.heap.size:=by
 obtain ⟨rs,-,h2⟩:=h
 exact Kit.own_lt h2
theorem OMs.ge {w : World} {base : Nat} {v : Value} {ms : List Cf.Mb} (h : OMs w base v ms) : ∀ k,v.ownBlock = some k → base ≤ k:=by
 obtain ⟨rs,-,h2⟩:=h
 exact Kit.own_base h2
set_option maxHeartbeats 2000000 in
theorem clone_any (c : Cf.Cl) (vs : Array Value) (w : World) (h : ClR w vs c) (hs : Cf.Szc c) :
  Calls Tryz.prog 33 #[.agg vs] w fun e w'=>∃ vs',e = .returned (.agg vs') ∧ OCl w' w.heap.size vs' c ∧ ApV vs' ∧ Below w.heap.size w w':=by
 obtain ⟨pv,fv,mv,rfl,hP,hF,hM⟩:=h
 have HP:=hid (fun W (k : Below w.heap.size w W)=>L3.cclone_any c.pool pv W (hP.below k (Nat.le_refl _)) hs.1)
 have HF:=hid (fun W (k : Below w.heap.size w W)=>cloneEach_any c.fs fv W (hF.below k (Nat.le_refl _)) hs.2.1 hs.2.2.2.1)
 have HM:=hid (fun W (k : Below w.heap.size w W)=>cloneEach_any c.ms mv W (hM.below k (Nat.le_refl _)) hs.2.2.1 hs.2.2.2.2)
 unfold L3.ClonePost at HP
 unfold cmFn at HF HM
 obtain ⟨xa,xc,rfl⟩:=hP.len
 obtain ⟨_,-,hf2⟩:=hF
 obtain ⟨ya,yc,rfl⟩:=hf2.len
 obtain ⟨_,-,hm2⟩:=hM
 obtain ⟨za,zc,rfl⟩:=hm2.len
 obtain ⟨mi,ma,pool,ac,th,su,fs,ms⟩:=c
 dsimp only at HP HF HM hs ⊢
 clear hP hf2 hm2 hs
 go_enter Tryz.func33,Tryz.ntmps33
 go_wp2_with (first
  | (go_at_call 77;have _g:=O2;have Bx3 : Below w.heap.size w (w2.setCell ⟨w.heap.size,6,none⟩ (.slice fa fs.length fc)):=BLw;refine (HM.out _ Bx3).mono ?_;rintro e w3 ⟨v3,rfl,o3,hb3⟩;obtain ⟨ga,gc,rfl⟩:=OMs.form o3;have B3:=belows Bx3 hb3 Bx3.size;have hz3:=hb3.size;simp only [World.size_setCell] at hz3 o3;have O3:=hid o3;have O1c:=hid (Kit.owns_below (Kit.owns_grown O1b.out (L3.set_grown _ w.heap.size 6 _) (by omega)) hb3 (Nat.le_refl _));have O2c:=hid ((O2.out.grown (L3.set_grown _ w.heap.size 6 _) (by omega)).below hb3 (Nat.le_refl _));have bM:=(BM2.out.set 6 (.slice fa fs.length fc)).below hb3 (by simp only [World.size_setCell];omega);have bR:=(BR2.out.grown (L3.set_grown w2 w.heap.size 6 (.slice fa fs.length fc)) (fun e=>by (have:=Option.some.inj e;omega))).below hb3 (by simp only [World.size_setCell];omega);clear m0 m1 m2 m3 m4 m5 m6 m7 g6 g7;have m0:=bM.cell 0;have m1:=bM.cell 1;have m2:=bM.cell 2;have m3:=bM.cell 3;have m4:=bM.cell 4;have m5:=bM.cell 5;have m6:=bM.cell 6;have m7:=bM.cell 7;have g7:=bM.frozen 7;simp at m0 m1 m2 m3 m4 m5 m6 m7;obtain ⟨r0,r1,r2,r3,r4,r5,r6,r7⟩:=bR.cells8;have f0:=bR.frozen 0;have f1:=bR.frozen 1;have f2:=bR.frozen 2;have f3:=bR.frozen 3;have f4:=bR.frozen 4;have f5:=bR.frozen 5;have f6:=bR.frozen 6;have f7:=bR.frozen 7;clear hb3 bM bR o3)
  | (go_at_call 77;have Bx : Below w.heap.size w (w1.setCell ⟨w.heap.size,2,none⟩ (.slice pa pool.length pc)):=BLw;refine (HF.out _ Bx).mono ?_;rintro e w2 ⟨v2,rfl,o2,hb2⟩;obtain ⟨fa,fc,rfl⟩:=OMs.form o2;have B2:=belows Bx hb2 Bx.size;have hz2:=hb2.size;simp only [World.size_setCell] at hz2 o2;have O2:=hid o2;have O1b:=hid (Kit.owns_below (Kit.owns_grown O1.out (L3.set_grown _ w.heap.size 2 _) (by omega)) hb2 (Nat.le_refl _));have bM:=(BM.out.set 2 (.slice pa pool.length pc)).below hb2 (by simp only [World.size_setCell];omega);have bR:=(BR.out.grown (L3.set_grown w1 w.heap.size 2 (.slice pa pool.length pc)) (fun e=>by (have:=Option.some.inj e;omega))).below hb2 (by simp only [World.size_setCell];omega);clear m0 m1 m2 m3 m4 m5 m6 m7 g2 g6 g7;have m0:=bM.cell 0;have m1:=bM.cell 1;have m2:=bM.cell 2;have m3:=bM.cell 3;have m4:=bM.cell 4;have m5:=bM.cell 5;have m6:=bM.cell 6;have m7:=bM.cell 7;have g6:=bM.frozen 6;have g7:=bM.frozen 7;simp at m0 m1 m2 m3 m4 m5 m6 m7;have BM2:=hid bM;have BR2:=hid bR;clear hb2 bM bR o2)
  | (go_at_call 76;refine (HP.out _ BLw).mono ?_;rintro e w1 ⟨v1,rfl,o1,hb1⟩;obtain ⟨pa,pc,rfl⟩:=L3.own_form o1;obtain ⟨bM,bR,hz1,B1⟩:=boxes2 hb1;unfold L3.OwnC at o1;simp only [World.size_alloc] at o1;have O1:=hid o1;have BM:=hid bM;have BR:=hid bR;have m0:=bM.cell 0;have m1:=bM.cell 1;have m2:=bM.cell 2;have m3:=bM.cell 3;have m4:=bM.cell 4;have m5:=bM.cell 5;have m6:=bM.cell 6;have m7:=bM.cell 7;have g2:=bM.frozen 2;have g6:=bM.frozen 6;have g7:=bM.frozen 7;simp at m0 m1 m2 m3 m4 m5 m6 m7;clear hb1 bM bR o1))
 refine bodyPost_ret (v:=.agg #[.int .i64 mi,.int .i64 ma,.slice pa pool.length pc,.int .i64 ac,.int .i64 th,.int .i64 su,.slice fa fs.length fc,.slice ga ms.length gc]) (by simp [results,Tryz.results33,go_sem,r0,r1,r2,r3,r4,r5,r6,r7]) rfl ⟨_,rfl,⟨_,_,_,rfl,?_,?_,?_⟩,fun k hk e9=>by (have q1:=OMs.lt O2.out k hk;have q2:=OMs.ge O3.out k e9;omega),BLw⟩
 ·have hlt2 : w.heap.size < w.heap.size + 1 + 1:=by omega
  have hlt : w.heap.size + 1 < w.heap.size + 1 + 1:=by omega
  refine L3.own_mono (base:=w.heap.size + 1 + 1) ?_ (by omega)
  (iterate 8 (refine Kit.owns_grown ?_ (L3.set_grown _ _ _ _) hlt))
  exact Kit.owns_grown O1c.out (L3.set_grown _ _ _ _) hlt2
 ·have hlt2 : w.heap.size < w1.heap.size:=by omega
  have hlt : w.heap.size + 1 < w1.heap.size:=by omega
  refine OMs.mono (base:=w1.heap.size) ?_ (by omega)
  (iterate 8 (refine OMs.grown ?_ (L3.set_grown _ _ _ _) hlt))
  exact O2c.out.grown (L3.set_grown _ _ _ _) hlt2
 ·have hlt2 : w.heap.size < w2.heap.size:=by omega
  have hlt : w.heap.size + 1 < w2.heap.size:=by omega
  refine OMs.mono (base:=w2.heap.size) ?_ (by omega)
  (iterate 8 (refine OMs.grown ?_ (L3.set_grown _ _ _ _) hlt))
  exact O3.out.grown (L3.set_grown _ _ _ _) hlt2
end Go.Proofs.YtnojgiflgmnjlaaGreatDoor
namespace Go.Proofs.YtnojgiflgmnjlaaGreatDoor
open Go.RowKit
theorem h_ne {x y : Cf.Hn} (h : x ≠ y) : (¬ x.f = y.f) ∨ (x.f = y.f ∧ ¬ x.t = y.t) ∨ (x.f = y.f ∧ x.t = y.t ∧ ¬ x.a = y.a) ∨ (x.f = y.f ∧ x.t = y.t ∧ x.a = y.a ∧ ¬ x.y = y.y):=by
 obtain ⟨f,t,a,z⟩:=x
 obtain ⟨f',t',a',z'⟩:=y
 dsimp only
 by_cases e1 : f = f'
 ·by_cases e2 : t = t'
  ·by_cases e3 : a = a'
   ·by_cases e4 : z = z'
    ·exact absurd (by rw [e1,e2,e3,e4]) h
    ·exact .inr (.inr (.inr ⟨e1,e2,e3,e4⟩))
   ·exact .inr (.inr (.inl ⟨e1,e2,e3⟩))
  ·exact .inr (.inl ⟨e1,e2⟩)
 ·exact .inl e1
theorem take_step {α : Type} {a b : List α} {j : Nat} {x : α} (h : a.take j = b.take j) (ha : a[j]? = some x) (hb : b[j]? = some x) : a.take (j + 1) = b.take (j + 1):=by
 rw [List.take_add_one,List.take_add_one,h,ha,hb]
theorem ne_at {α : Type} [DecidableEq α] {a b : List α} {j : Nat} {x y : α} (ha : a[j]? = some x) (hb : b[j]? = some y) (hne : x ≠ y) : decide (a = b) = false:=by
 rw [decide_eq_false_iff_not]
 rintro rfl
 rw [ha] at hb
 exact hne (Option.some.inj hb)
set_option maxHeartbeats 1000000 in
theorem rscG_any (l l2 : List L3.Cp.C) (v u : Value) (w : World) (hv : Kit.IsS 5 w v l.length (l.flatMap L3.cL)) (hu : Kit.IsS 5 w u l2.length (l2.flatMap L3.cL)) :
  Calls Tryz.prog 42 #[v,u] w fun e w'=>e = .returned (.bool (decide (l = l2))) ∧ Below w.heap.size w w':=by
 by_cases hlen2 : l.length = l2.length
 ·have HV:=hid hv
  have HU:=hid hu
  obtain ⟨a1,cap1,hv2⟩:=hv.len
  obtain ⟨a2,cap2,hu2⟩:=hu.len
  rw [← hlen2] at hu2
  subst hv2 hu2
  have hlen:=hv.2.1
  obtain ⟨r,hr⟩ : ∃ r,r = decide (l = l2):=⟨_,rfl⟩
  rw [← hr]
  have HR:=hid hr
  have HL2:=hid hlen2
  clear hv hu hr hlen2
  go_enter Tryz.func42,Tryz.ntmps42
  go_wp2
  go_loopw [5] (fun i wr=>∃ k : Nat,k ≤ l.length ∧ i = .int .i64 k ∧ Hid (l.take k = l2.take k) ∧ Below w.heap.size w wr) (fun i _=>l.length - (intOf i).toNat)
  case atStart=>exact ⟨0,by omega,rfl,rfl,BLw⟩
  case round =>
   obtain ⟨k,hk,rfl,htk,hbl⟩:=hrel
   have hbz:=hbl.size
   by_cases hlt : k < l.length
   ·obtain ⟨x,hx⟩ : ∃ x,l[k]? = some x:=⟨l[k],List.getElem?_eq_getElem hlt⟩
    obtain ⟨y,hy⟩ : ∃ y,l2[k]? = some y:=⟨l2[k]'(by rw [← HL2.out];exact hlt),List.getElem?_eq_getElem _⟩
    obtain ⟨b,o,cap',hv,hb,c0,c1,c2,c3,c4⟩:=L3.c_at (HV.out.below hbl (Nat.le_refl _)) hx
    obtain ⟨rfl,-,rfl⟩:=Value.slice.inj hv
    obtain ⟨b',o',cap',hv',hb',d0,d1,d2,d3,d4⟩:=L3.c_at (HU.out.below hbl (Nat.le_refl _)) hy
    obtain ⟨rfl,-,rfl⟩:=Value.slice.inj hv'
    have i1 : (k : Int) < (l.length : Int):=by omega
    by_cases hxy : x = y
    ·subst hxy
     have hnext:=hid (take_step htk.out hx hy)
     clear hx hy hv hv'
     go_wp2
     go_quiet (fail)
     go_wp2
     go_roundw
     case rel=>exact ⟨k + 1,by omega,by go_num,hnext,BLw⟩
     case measure=>simp [intOf];omega
    ·have HF:=hid (HR.out.trans (ne_at hx hy hxy))
     have hc:=L3.c_ne hxy
     clear hx hy hv hv' hxy
     obtain ⟨xt,xs,xn,xa,xb⟩:=x
     obtain ⟨yt,ys,yn,ya,yb⟩:=y
     dsimp only at c0 d0 c1 d1 c2 d2 c3 d3 c4 d4 hc
     rcases hc with hne|⟨rfl,hne⟩|⟨rfl,rfl,hne⟩|⟨rfl,rfl,rfl,hne⟩|⟨rfl,rfl,rfl,rfl,hne⟩
     all_goals
      go_wp2
      go_quiet (fail)
      go_wp2
      go_ret
      exact ⟨by rw [HF.out];rfl,BLw⟩
   ·obtain rfl : k = l.length:=by omega
    have HF : Hid (r = true):=by
     show r = true
     rw [HR.out,decide_eq_true_iff]
     have:=htk.out
     rwa [List.take_length,HL2.out,List.take_length] at this
    go_wp2
    go_ret
    exact ⟨by rw [HF.out];rfl,BLw⟩
 ·obtain ⟨a1,cap1,hv2⟩:=hv.len
  obtain ⟨a2,cap2,hu2⟩:=hu.len
  subst hv2 hu2
  have hd : ((l.length : Int) != (l2.length : Int)) = true:=by simp;omega
  rw [decide_eq_false (fun e=>hlen2 (by rw [e]))]
  clear hv hu hlen2
  go_enter Tryz.func42,Tryz.ntmps42
  go_wp2
  go_ret
  exact ⟨rfl,BLw⟩
set_option maxHeartbeats 1000000 in
theorem rshG_any (l l2 : List Cf.Hn) (v u : Value) (w : World) (hv : Kit.IsS 4 w v l.length (l.flatMap hL)) (hu : Kit.IsS 4 w u l2.length (l2.flatMap hL)) :
  Calls Tryz.prog 84 #[v,u] w fun e w'=>e = .returned (.bool (decide (l = l2))) ∧ Below w.heap.size w w':=by
 by_cases hlen2 : l.length = l2.length
 ·have HV:=hid hv
  have HU:=hid hu
  obtain ⟨a1,cap1,hv2⟩:=hv.len
  obtain ⟨a2,cap2,hu2⟩:=hu.len
  rw [← hlen2] at hu2
  subst hv2 hu2
  have hlen:=hv.2.1
  obtain ⟨r,hr⟩ : ∃ r,r = decide (l = l2):=⟨_,rfl⟩
  rw [← hr]
  have HR:=hid hr
  have HL2:=hid hlen2
  clear hv hu hr hlen2
  go_enter Tryz.func84,Tryz.ntmps84
  go_wp2
  go_loopw [5] (fun i wr=>∃ k : Nat,k ≤ l.length ∧ i = .int .i64 k ∧ Hid (l.take k = l2.take k) ∧ Below w.heap.size w wr) (fun i _=>l.length - (intOf i).toNat)
  case atStart=>exact ⟨0,by omega,rfl,rfl,BLw⟩
  case round =>
   obtain ⟨k,hk,rfl,htk,hbl⟩:=hrel
   have hbz:=hbl.size
   by_cases hlt : k < l.length
   ·obtain ⟨x,hx⟩ : ∃ x,l[k]? = some x:=⟨l[k],List.getElem?_eq_getElem hlt⟩
    obtain ⟨y,hy⟩ : ∃ y,l2[k]? = some y:=⟨l2[k]'(by rw [← HL2.out];exact hlt),List.getElem?_eq_getElem _⟩
    obtain ⟨b,o,cap',hv,hb,c0,c1,c2,c3⟩:=h_at (HV.out.below hbl (Nat.le_refl _)) hx
    obtain ⟨rfl,-,rfl⟩:=Value.slice.inj hv
    obtain ⟨b',o',cap',hv',hb',d0,d1,d2,d3⟩:=h_at (HU.out.below hbl (Nat.le_refl _)) hy
    obtain ⟨rfl,-,rfl⟩:=Value.slice.inj hv'
    have i1 : (k : Int) < (l.length : Int):=by omega
    by_cases hxy : x = y
    ·subst hxy
     have hnext:=hid (take_step htk.out hx hy)
     clear hx hy hv hv'
     go_wp2
     go_quiet (fail)
     go_wp2
     go_roundw
     case rel=>exact ⟨k + 1,by omega,by go_num,hnext,BLw⟩
     case measure=>simp [intOf];omega
    ·have HF:=hid (HR.out.trans (ne_at hx hy hxy))
     have hc:=h_ne hxy
     clear hx hy hv hv' hxy
     obtain ⟨xf,xt,xa,xy⟩:=x
     obtain ⟨yf,yt,ya,yy⟩:=y
     dsimp only at c0 d0 c1 d1 c2 d2 c3 d3 hc
     rcases hc with hne|⟨rfl,hne⟩|⟨rfl,rfl,hne⟩|⟨rfl,rfl,rfl,hne⟩
     all_goals
      go_wp2
      go_quiet (fail)
      go_wp2
      go_ret
      exact ⟨by rw [HF.out];rfl,BLw⟩
   ·obtain rfl : k = l.length:=by omega
    have HF : Hid (r = true):=by
     show r = true
     rw [HR.out,decide_eq_true_iff]
     have:=htk.out
     rwa [List.take_length,HL2.out,List.take_length] at this
    go_wp2
    go_ret
    exact ⟨by rw [HF.out];rfl,BLw⟩
 ·obtain ⟨a1,cap1,hv2⟩:=hv.len
  obtain ⟨a2,cap2,hu2⟩:=hu.len
  subst hv2 hu2
  have hd : ((l.length : Int) != (l2.length : Int)) = true:=by simp;omega
  rw [decide_eq_false (fun e=>hlen2 (by rw [e]))]
  clear hv hu hlen2
  go_enter Tryz.func84,Tryz.ntmps84
  go_wp2
  go_ret
  exact ⟨rfl,BLw⟩
end Go.Proofs.YtnojgiflgmnjlaaGreatDoor
namespace Go.Proofs.YtnojgiflgmnjlaaGreatDoor
open Go.RowKit
theorem m_ne {x y : Cf.Mb} (h : x ≠ y) : (¬ x.ac = y.ac) ∨ (x.ac = y.ac ∧ ¬ x.nm = y.nm) ∨ (x.ac = y.ac ∧ x.nm = y.nm ∧ ¬ x.ds = y.ds) ∨ (x.ac = y.ac ∧ x.nm = y.nm ∧ x.ds = y.ds ∧ ¬ x.st = y.st) ∨ (x.ac = y.ac ∧ x.nm = y.nm ∧ x.ds = y.ds ∧ x.st = y.st ∧ ¬ x.lc = y.lc) ∨
  (x.ac = y.ac ∧ x.nm = y.nm ∧ x.ds = y.ds ∧ x.st = y.st ∧ x.lc = y.lc ∧ ¬ x.code = y.code) ∨ (x.ac = y.ac ∧ x.nm = y.nm ∧ x.ds = y.ds ∧ x.st = y.st ∧ x.lc = y.lc ∧ x.code = y.code ∧ ¬ x.hs = y.hs):=by
 obtain ⟨a1,a2,a3,a4,a5,a6,a7⟩:=x
 obtain ⟨b1,b2,b3,b4,b5,b6,b7⟩:=y
 dsimp only
 by_cases e1 : a1 = b1
 ·by_cases e2 : a2 = b2
  ·by_cases e3 : a3 = b3
   ·by_cases e4 : a4 = b4
    ·by_cases e5 : a5 = b5
     ·by_cases e6 : a6 = b6
      ·exact .inr (.inr (.inr (.inr (.inr (.inr ⟨e1,e2,e3,e4,e5,e6,fun e7=>h (by rw [e1,e2,e3,e4,e5,e6,e7])⟩)))))
      ·exact .inr (.inr (.inr (.inr (.inr (.inl ⟨e1,e2,e3,e4,e5,e6⟩)))))
     ·exact .inr (.inr (.inr (.inr (.inl ⟨e1,e2,e3,e4,e5⟩))))
    ·exact .inr (.inr (.inr (.inl ⟨e1,e2,e3,e4⟩)))
   ·exact .inr (.inr (.inl ⟨e1,e2,e3⟩))
  ·exact .inr (.inl ⟨e1,e2⟩)
 ·exact .inl e1
def bst (l : List UInt8) : ByteArray:=⟨l.toArray⟩
theorem bst_ne {a b : List UInt8} (h : ¬ a = b) : ((bst a).toList == (bst b).toList) = false:=by
 rw [beq_eq_false_iff_ne,ne_eq,ByteArray.toList_eq,ByteArray.toList_eq]
 unfold bst
 simpa using h
set_option maxHeartbeats 2000000 in
theorem rsmG_any (ms ns : List Cf.Mb) (v u : Value) (w : World) (hv : MsR w v ms) (hu : MsR w u ns) :
  Calls Tryz.prog 43 #[v,u] w fun e w'=>e = .returned (.bool (decide (ms = ns))) ∧ Below w.heap.size w w':=by
 by_cases hlen2 : ms.length = ns.length
 ·have HV:=hid hv
  have HU:=hid hu
  obtain ⟨a1,cap1,hv2⟩:=hv.len
  obtain ⟨a2,cap2,hu2⟩:=hu.len
  rw [← hlen2] at hu2
  subst hv2 hu2
  have hlen:=hv.size
  obtain ⟨r,hr⟩ : ∃ r,r = decide (ms = ns):=⟨_,rfl⟩
  rw [← hr]
  have HR:=hid hr
  have HL2:=hid hlen2
  clear hv hu hr hlen2
  go_enter Tryz.func43,Tryz.ntmps43
  go_wp2
  go_loopw [5] (fun i wr=>∃ k : Nat,k ≤ ms.length ∧ i = .int .i64 k ∧ Hid (ms.take k = ns.take k) ∧ Below w.heap.size w wr) (fun i _=>ms.length - (intOf i).toNat)
  case atStart=>exact ⟨0,by omega,rfl,rfl,BLw⟩
  case round =>
   obtain ⟨k,hk,rfl,htk,hbl⟩:=hrel
   have hbz:=hbl.size
   by_cases hlt : k < ms.length
   ·obtain ⟨x,hx⟩ : ∃ x,ms[k]? = some x:=⟨ms[k],List.getElem?_eq_getElem hlt⟩
    obtain ⟨y,hy⟩ : ∃ y,ns[k]? = some y:=⟨ns[k]'(by rw [← HL2.out];exact hlt),List.getElem?_eq_getElem _⟩
    obtain ⟨b,o,cap',cv,hw,hv2,hbb,hB,hH,hcl,c0,c1,c2,c3,c4,c5,c6⟩:=(HV.out.below hbl (Nat.le_refl _)).at hx
    obtain ⟨b2,o2,cap2',cv2,hw2,hu2,hbb2,hB2,hH2,-,d0,d1,d2,d3,d4,d5,d6⟩:=(HU.out.below hbl (Nat.le_refl _)).at hy
    obtain ⟨rfl,-,rfl⟩:=Value.slice.inj hv2
    obtain ⟨rfl,-,rfl⟩:=Value.slice.inj hu2
    have hki : (k : Int) < (ms.length : Int):=by omega
    have HHs:=hid (fun W (k : Below wr.heap.size wr W)=>rshG_any x.hs y.hs _ _ W (hH.below k (Nat.le_refl _)) (hH2.below k (Nat.le_refl _)))
    obtain ⟨xa,xc,rfl⟩:=hB.len
    obtain ⟨ya,yc,rfl⟩:=hH.len
    obtain ⟨xa2,xc2,rfl⟩:=hB2.len
    obtain ⟨ya2,yc2,rfl⟩:=hH2.len
    have HCv:=hid (fun W (q : Below wr.heap.size wr W)=>(show (convert 22 9 (.slice xa x.code.length xc)).run Tryz.prog W = .ok (.string (bst x.code)) W ∧ (convert 22 9 (.slice xa2 y.code.length xc2)).run Tryz.prog W = .ok (.string (bst y.code)) W from ⟨L3.bs_conv ((hB.below q (Nat.le_refl _)).mono q.size),L3.bs_conv ((hB2.below q (Nat.le_refl _)).mono q.size)⟩))
    have HHd:=hid (show decide (x.hs = y.hs) = decide (x.hs = y.hs) from rfl)
    by_cases hxy : x = y
    ·subst hxy
     have hnext:=hid (take_step htk.out hx hy)
     obtain ⟨ac,nm,ds,st,lc,co,hs9⟩:=x
     dsimp only at c0 c1 c2 c3 c4 c5 c6 d0 d1 d2 d3 d4 d5 d6 HHs HCv
     obtain ⟨s,hs⟩ : ∃ s,s = bst co:=⟨_,rfl⟩
     rw [← hs] at HCv
     have B7 : Below wr.heap.size wr ((wr.alloc (.cells #[.int .i64 ac,.int .i64 nm,.int .i64 ds,.int .i64 st,.int .i64 lc,.slice xa co.length xc,.slice ya hs9.length yc] 42)).alloc (.cells #[.int .i64 ac,.int .i64 nm,.int .i64 ds,.int .i64 st,.int .i64 lc,.slice xa2 co.length xc2,.slice ya2 hs9.length yc2] 42)):=BLw
     obtain ⟨hv7,hu7⟩:=HCv.out _ B7
     have hdd : decide (hs9 = hs9) = true:=decide_eq_true rfl
     rw [hdd] at HHs
     clear hx hy hv2 hu2 hB hH hB2 hH2 hcl HHd hs hdd
     go_wp2_with (go_at_call 84;refine (HHs.out _ B7).mono ?_;rintro e W8 ⟨rfl,hb8⟩;have B8:=belows B7 hb8 B7.size)
     go_roundw
     case rel=>exact ⟨k + 1,by omega,by go_num,hnext,belows hbl B8 hbz⟩
     case measure=>simp [intOf];omega
    ·have HF:=hid (HR.out.trans (ne_at hx hy hxy))
     have hc:=m_ne hxy
     clear hx hy hv2 hu2 hB hH hB2 hH2 hcl HHd hxy
     obtain ⟨ac,nm,ds,st,lc,co,hs9⟩:=x
     obtain ⟨ac',nm',ds',st',lc',co',hs9'⟩:=y
     dsimp only at c0 c1 c2 c3 c4 c5 c6 d0 d1 d2 d3 d4 d5 d6 HHs HCv hc
     have B7 : Below wr.heap.size wr ((wr.alloc (.cells #[.int .i64 ac,.int .i64 nm,.int .i64 ds,.int .i64 st,.int .i64 lc,.slice xa co.length xc,.slice ya hs9.length yc] 42)).alloc (.cells #[.int .i64 ac',.int .i64 nm',.int .i64 ds',.int .i64 st',.int .i64 lc',.slice xa2 co'.length xc2,.slice ya2 hs9'.length yc2] 42)):=BLw
     rcases hc with hne|⟨rfl,hne⟩|⟨rfl,rfl,hne⟩|⟨rfl,rfl,rfl,hne⟩|⟨rfl,rfl,rfl,rfl,hne⟩|⟨rfl,rfl,rfl,rfl,rfl,hne⟩|⟨rfl,rfl,rfl,rfl,rfl,rfl,hne⟩
     rotate_left 5
     ·obtain ⟨hv7,hu7⟩:=HCv.out _ B7
      have hb:=bst_ne hne
      obtain ⟨s,hs⟩ : ∃ s,s = bst co:=⟨_,rfl⟩
      obtain ⟨t,ht⟩ : ∃ s,s = bst co':=⟨_,rfl⟩
      rw [← hs] at hv7 hb
      rw [← ht] at hu7 hb
      clear HCv hs ht hne
      go_wp2
      go_ret
      exact ⟨by rw [HF.out];rfl,belows hbl B7 hbz⟩
     ·obtain ⟨hv7,hu7⟩:=HCv.out _ B7
      obtain ⟨s,hs⟩ : ∃ s,s = bst co:=⟨_,rfl⟩
      rw [← hs] at hv7 hu7
      rw [decide_eq_false hne] at HHs
      clear HCv hs hne
      go_wp2_with (go_at_call 84;refine (HHs.out _ B7).mono ?_;rintro e W8 ⟨rfl,hb8⟩;have B8:=belows B7 hb8 B7.size)
      go_ret
      exact ⟨by rw [HF.out];rfl,belows hbl B8 hbz⟩
     all_goals
      clear HCv
      go_wp2
      go_ret
      exact ⟨by rw [HF.out];rfl,belows hbl B7 hbz⟩
   ·obtain rfl : k = ms.length:=by omega
    have HF : Hid (r = true):=by
     show r = true
     rw [HR.out,decide_eq_true_iff]
     have:=htk.out
     rwa [List.take_length,HL2.out,List.take_length] at this
    go_wp2
    go_ret
    exact ⟨by rw [HF.out];rfl,BLw⟩
 ·obtain ⟨a1,cap1,hv2⟩:=hv.len
  obtain ⟨a2,cap2,hu2⟩:=hu.len
  subst hv2 hu2
  have hd : ((ms.length : Int) != (ns.length : Int)) = true:=by simp;omega
  rw [decide_eq_false (fun e=>hlen2 (by rw [e]))]
  clear hv hu hlen2
  go_enter Tryz.func43,Tryz.ntmps43
  go_wp2
  go_ret
  exact ⟨rfl,BLw⟩
end Go.Proofs.YtnojgiflgmnjlaaGreatDoor
namespace Go.Proofs.YtnojgiflgmnjlaaGreatDoor
open Go.RowKit
theorem two_cl {x y : Cf.Cl} (h : x ≠ y) : (¬ x.mi = y.mi) ∨ (x.mi = y.mi ∧ ¬ x.ma = y.ma) ∨ (x.mi = y.mi ∧ x.ma = y.ma ∧ ¬ x.ac = y.ac) ∨ (x.mi = y.mi ∧ x.ma = y.ma ∧ x.ac = y.ac ∧ ¬ x.th = y.th) ∨ (x.mi = y.mi ∧ x.ma = y.ma ∧ x.ac = y.ac ∧ x.th = y.th ∧ ¬ x.su = y.su) ∨ (x.mi = y.mi ∧ x.ma = y.ma ∧ x.ac = y.ac ∧ x.th = y.th ∧ x.su = y.su ∧ ¬ x.pool = y.pool) ∨ (x.mi = y.mi ∧ x.ma = y.ma ∧ x.ac = y.ac ∧ x.th = y.th ∧ x.su = y.su ∧ x.pool = y.pool ∧ ¬ x.fs = y.fs) ∨ (x.mi = y.mi ∧ x.ma = y.ma ∧ x.ac = y.ac ∧ x.th = y.th ∧ x.su = y.su ∧ x.pool = y.pool ∧ x.fs = y.fs ∧ ¬ x.ms = y.ms):=by
 obtain ⟨a1,a2,a6,a3,a4,a5,a7,a8⟩:=x
 obtain ⟨b1,b2,b6,b3,b4,b5,b7,b8⟩:=y
 dsimp only
 by_cases e1 : a1 = b1
 ·by_cases e2 : a2 = b2
  ·by_cases e3 : a3 = b3
   ·by_cases e4 : a4 = b4
    ·by_cases e5 : a5 = b5
     ·by_cases e6 : a6 = b6
      ·by_cases e7 : a7 = b7
       ·exact .inr (.inr (.inr (.inr (.inr (.inr (.inr (⟨e1,e2,e3,e4,e5,e6,e7,fun e8=>h (by rw [e1,e2,e3,e4,e5,e6,e7,e8])⟩)))))))
       ·exact .inr (.inr (.inr (.inr (.inr (.inr (.inl ⟨e1,e2,e3,e4,e5,e6,e7⟩))))))
      ·exact .inr (.inr (.inr (.inr (.inr (.inl ⟨e1,e2,e3,e4,e5,e6⟩)))))
     ·exact .inr (.inr (.inr (.inr (.inl ⟨e1,e2,e3,e4,e5⟩))))
    ·exact .inr (.inr (.inr (.inl ⟨e1,e2,e3,e4⟩)))
   ·exact .inr (.inr (.inl ⟨e1,e2,e3⟩))
  ·exact .inr (.inl ⟨e1,e2⟩)
 ·exact .inl e1
set_option maxHeartbeats 2000000 in
theorem rsameG_any (x y : Cf.Cl) (vs us : Array Value) (w : World) (hv : ClR w vs x) (hu : ClR w us y) :
  Calls Tryz.prog 14 #[.agg vs,.agg us] w fun e w'=>e = .returned (.bool (decide (x = y))) ∧ Below w.heap.size w w':=by
 obtain ⟨pv,fv,mv,rfl,hp,hf,hm⟩:=hv
 obtain ⟨qv,gv,nv,rfl,kp,kf,km⟩:=hu
 have HP':=fun W (k : Below w.heap.size w W)=>rscG_any x.pool y.pool pv qv W (hp.below k (Nat.le_refl _)) (kp.below k (Nat.le_refl _))
 have HF':=fun W (k : Below w.heap.size w W)=>rsmG_any x.fs y.fs fv gv W (hf.below k (Nat.le_refl _)) (kf.below k (Nat.le_refl _))
 have HM':=fun W (k : Below w.heap.size w W)=>rsmG_any x.ms y.ms mv nv W (hm.below k (Nat.le_refl _)) (km.below k (Nat.le_refl _))
 obtain ⟨pa,pc,rfl⟩:=hp.len
 obtain ⟨fa,fc,rfl⟩:=hf.len
 obtain ⟨ma2,mc,rfl⟩:=hm.len
 obtain ⟨pa',pc',rfl⟩:=kp.len
 obtain ⟨fa',fc',rfl⟩:=kf.len
 obtain ⟨ma2',mc',rfl⟩:=km.len
 clear hp hf hm kp kf km
 obtain ⟨r,hr⟩ : ∃ r,r = decide (x = y):=⟨_,rfl⟩
 rw [← hr]
 have hc : (x = y) ∨ _:=(Decidable.em (x = y)).imp id two_cl
 obtain ⟨mi,ma,P,ac,th,su,fs,ms⟩:=x
 obtain ⟨mi',ma',P',ac',th',su',fs',ms'⟩:=y
 dsimp only at hc HP' HF' HM' ⊢
 rcases hc with hc|hne|⟨rfl,hne⟩|⟨rfl,rfl,hne⟩|⟨rfl,rfl,rfl,hne⟩|⟨rfl,rfl,rfl,rfl,hne⟩|⟨rfl,rfl,rfl,rfl,rfl,hne⟩|⟨rfl,rfl,rfl,rfl,rfl,rfl,hne⟩|⟨rfl,rfl,rfl,rfl,rfl,rfl,rfl,hne⟩
 ·cases hc
  obtain rfl : r = true:=by rw [hr];simp
  rw [decide_eq_true rfl] at HP' HF' HM'
  have HP:=hid HP'
  have HF:=hid HF'
  have HM:=hid HM'
  clear hr HP' HF' HM'
  go_enter Tryz.func14,Tryz.ntmps14
  go_wp2_with (first|(go_at_call 42;refine (HP.out _ BLw).mono ?_;rintro e w1 ⟨rfl,hb1⟩;obtain ⟨bC,bD,hz1,B1⟩:=boxes2 hb1;have q6:=bC.cell 6;have r6:=bD.cell 6;have q7:=bC.cell 7;have r7:=bD.cell 7;simp at q6 q7 r6 r7;have bC1:=bC;have bD1:=bD;clear hb1)|(go_at_call 43;have _g:=B2;refine (HM.out _ B2).mono ?_;rintro e w3 ⟨rfl,hb3⟩;have B3:=belows B2 hb3 B2.size)|(go_at_call 43;refine (HF.out _ B1).mono ?_;rintro e w2 ⟨rfl,hb2⟩;have B2:=belows B1 hb2 B1.size;have bC:=bC1.below hb2 bC1.sz;have bD:=bD1.below hb2 bD1.sz;have q7:=bC.cell 7;have r7:=bD.cell 7;simp at q7 r7))
  all_goals go_ret
  all_goals exact ⟨rfl,by first|exact B3|exact B2|exact B1⟩
 rotate_left 5
 ·obtain rfl : r = false:=by rw [hr];simp [hne]
  rw [decide_eq_false hne] at HP'
  have HP:=hid HP'
  have HF:=hid HF'
  have HM:=hid HM'
  clear hr HP' HF' HM' hne
  go_enter Tryz.func14,Tryz.ntmps14
  go_wp2_with (first|(go_at_call 42;refine (HP.out _ BLw).mono ?_;rintro e w1 ⟨rfl,hb1⟩;obtain ⟨bC,bD,hz1,B1⟩:=boxes2 hb1;have q6:=bC.cell 6;have r6:=bD.cell 6;have q7:=bC.cell 7;have r7:=bD.cell 7;simp at q6 q7 r6 r7;have bC1:=bC;have bD1:=bD;clear hb1)|(go_at_call 43;have _g:=B2;refine (HM.out _ B2).mono ?_;rintro e w3 ⟨rfl,hb3⟩;have B3:=belows B2 hb3 B2.size)|(go_at_call 43;refine (HF.out _ B1).mono ?_;rintro e w2 ⟨rfl,hb2⟩;have B2:=belows B1 hb2 B1.size;have bC:=bC1.below hb2 bC1.sz;have bD:=bD1.below hb2 bD1.sz;have q7:=bC.cell 7;have r7:=bD.cell 7;simp at q7 r7))
  all_goals go_ret
  all_goals exact ⟨rfl,B1⟩
 ·obtain rfl : r = false:=by rw [hr];simp [hne]
  rw [decide_eq_true rfl] at HP'
  rw [decide_eq_false hne] at HF'
  have HP:=hid HP'
  have HF:=hid HF'
  have HM:=hid HM'
  clear hr HP' HF' HM' hne
  go_enter Tryz.func14,Tryz.ntmps14
  go_wp2_with (first|(go_at_call 42;refine (HP.out _ BLw).mono ?_;rintro e w1 ⟨rfl,hb1⟩;obtain ⟨bC,bD,hz1,B1⟩:=boxes2 hb1;have q6:=bC.cell 6;have r6:=bD.cell 6;have q7:=bC.cell 7;have r7:=bD.cell 7;simp at q6 q7 r6 r7;have bC1:=bC;have bD1:=bD;clear hb1)|(go_at_call 43;have _g:=B2;refine (HM.out _ B2).mono ?_;rintro e w3 ⟨rfl,hb3⟩;have B3:=belows B2 hb3 B2.size)|(go_at_call 43;refine (HF.out _ B1).mono ?_;rintro e w2 ⟨rfl,hb2⟩;have B2:=belows B1 hb2 B1.size;have bC:=bC1.below hb2 bC1.sz;have bD:=bD1.below hb2 bD1.sz;have q7:=bC.cell 7;have r7:=bD.cell 7;simp at q7 r7))
  all_goals go_ret
  all_goals exact ⟨rfl,B2⟩
 ·obtain rfl : r = false:=by rw [hr];simp [hne]
  rw [decide_eq_true rfl] at HP'
  rw [decide_eq_true rfl] at HF'
  rw [decide_eq_false hne] at HM'
  have HP:=hid HP'
  have HF:=hid HF'
  have HM:=hid HM'
  clear hr HP' HF' HM' hne
  go_enter Tryz.func14,Tryz.ntmps14
  go_wp2_with (first|(go_at_call 42;refine (HP.out _ BLw).mono ?_;rintro e w1 ⟨rfl,hb1⟩;obtain ⟨bC,bD,hz1,B1⟩:=boxes2 hb1;have q6:=bC.cell 6;have r6:=bD.cell 6;have q7:=bC.cell 7;have r7:=bD.cell 7;simp at q6 q7 r6 r7;have bC1:=bC;have bD1:=bD;clear hb1)|(go_at_call 43;have _g:=B2;refine (HM.out _ B2).mono ?_;rintro e w3 ⟨rfl,hb3⟩;have B3:=belows B2 hb3 B2.size)|(go_at_call 43;refine (HF.out _ B1).mono ?_;rintro e w2 ⟨rfl,hb2⟩;have B2:=belows B1 hb2 B1.size;have bC:=bC1.below hb2 bC1.sz;have bD:=bD1.below hb2 bD1.sz;have q7:=bC.cell 7;have r7:=bD.cell 7;simp at q7 r7))
  all_goals go_ret
  all_goals exact ⟨rfl,B3⟩
 all_goals
  obtain rfl : r = false:=by rw [hr];simp [hne]
  clear hr HP' HF' HM'
  go_enter Tryz.func14,Tryz.ntmps14
  go_wp2
  all_goals go_ret
  all_goals exact ⟨rfl,BLw⟩
end Go.Proofs.YtnojgiflgmnjlaaGreatDoor
namespace Go.Proofs.YtnojgiflgmnjlaaGreatDoor
open Go.RowKit
theorem isS_low {size lo pb : Nat} {w W X : World} {v : Value} {n : Nat} {xs : List Value} (h : Kit.IsS size w v n xs) (hl : w.heap.size = lo) (hb : Below w.heap.size w W) (k : Kx lo pb W X) : Kit.IsS size X v n xs:=by
 obtain ⟨h1,h2,h3⟩:=h
 refine ⟨h1,h2,?_⟩
 rcases h3 with h3|⟨b,o,cap,hv,hc,hlt,hx⟩
 ·exact .inl h3
 ·refine .inr ⟨b,o,cap,hv,hc,Nat.lt_of_lt_of_le hlt (Nat.le_trans hb.size k.1),fun i u hu=>?_⟩
  have e : X.heap[b]? = w.heap[b]?:=(k.2 b (Nat.lt_of_lt_of_le hlt hb.size) (.inl (by omega))).trans (hb.block b hlt)
  exact (World.cell?_of_block e).trans (hx i u hu)
theorem Bd.start {w W : World} {pb cap : Nat} {a : Option Addr} {l : List L3.Cp.C} (hS : Kit.IsS 5 w (.slice a l.length cap) l.length (l.flatMap L3.cL)) (hz : PoolSz l) (hb : Below w.heap.size w W) (hx : L3.BX W pb #[.slice a l.length cap,.int .i64 0] 95) (hp : w.heap.size ≤ pb) : Bd W w.heap.size pb l 0 :=
 ⟨⟨_,hx,fun _ k=>isS_low hS rfl hb k⟩,hz,hp⟩
theorem Bd.set {w : World} {lo pb : Nat} {l : List L3.Cp.C} {er : Int} (h : Bd w lo pb l er) {r : Nat} (h1 : lo ≤ r) (h2 : r < pb) (j : Nat) (u : Value) : Bd (w.setCell ⟨r,j,none⟩ u) lo pb l er:=by
 obtain ⟨v,hx,hs⟩:=h.box
 exact ⟨⟨v,L3.BX.grown (show L3.BX w pb _ _ from hx) (L3.set_grown w r j u) (fun e=>by have:=Option.some.inj e;omega),fun X k=>hs X (((Kx.refl _ _ _).set ⟨h1,by omega⟩ u).trans k)⟩,h.sz,h.lo⟩
theorem BX.al {w : World} {B : Nat} {cs : Array Value} {T : TypeId} (h : L3.BX w B cs T) (o : Obj) : L3.BX (w.alloc o) B cs T:=h.below (n:=w.heap.size) ((Below.refl _ _).alloc (Nat.le_refl _) _) h.sz
theorem put7 {W : World} {b : Nat} {cs : Array Value} {T : TypeId} (h : L3.BX W b cs T) (hs : cs.size = 7) (a0 a1 a2 a3 a4 a5 a6 : Value) :
  L3.BX (((((((W.setCell ⟨b,0,none⟩ a0).setCell ⟨b,1,none⟩ a1).setCell ⟨b,2,none⟩ a2).setCell ⟨b,3,none⟩ a3).setCell ⟨b,4,none⟩ a4).setCell ⟨b,5,none⟩ a5).setCell ⟨b,6,none⟩ a6) b #[a0,a1,a2,a3,a4,a5,a6] T:=by
 obtain ⟨L⟩:=cs
 match L,hs with
 | [_,_,_,_,_,_,_],_ =>
  have h9:=(((((((h.set 0 a0).set 1 a1).set 2 a2).set 3 a3).set 4 a4).set 5 a5).set 6 a6)
  simp only [List.setIfInBounds_toArray,List.set_cons_zero,List.set_cons_succ] at h9
  exact h9
theorem put8 {W : World} {b : Nat} {cs : Array Value} {T : TypeId} (h : L3.BX W b cs T) (hs : cs.size = 8) (a0 a1 a2 a3 a4 a5 a6 a7 : Value) :
  L3.BX ((((((((W.setCell ⟨b,0,none⟩ a0).setCell ⟨b,1,none⟩ a1).setCell ⟨b,2,none⟩ a2).setCell ⟨b,3,none⟩ a3).setCell ⟨b,4,none⟩ a4).setCell ⟨b,5,none⟩ a5).setCell ⟨b,6,none⟩ a6).setCell ⟨b,7,none⟩ a7) b #[a0,a1,a2,a3,a4,a5,a6,a7] T:=by
 obtain ⟨L⟩:=cs
 match L,hs with
 | [_,_,_,_,_,_,_,_],_ =>
  have h9:=((((((((h.set 0 a0).set 1 a1).set 2 a2).set 3 a3).set 4 a4).set 5 a5).set 6 a6).set 7 a7)
  simp only [List.setIfInBounds_toArray,List.set_cons_zero,List.set_cons_succ] at h9
  exact h9
theorem grown7 (W : World) (b : Nat) (a0 a1 a2 a3 a4 a5 a6 : Value) :
  W.grownBy (((((((W.setCell ⟨b,0,none⟩ a0).setCell ⟨b,1,none⟩ a1).setCell ⟨b,2,none⟩ a2).setCell ⟨b,3,none⟩ a3).setCell ⟨b,4,none⟩ a4).setCell ⟨b,5,none⟩ a5).setCell ⟨b,6,none⟩ a6) (some b) :=
 L3.grown_trans (L3.grown_trans (L3.grown_trans (L3.grown_trans (L3.grown_trans (L3.grown_trans (L3.set_grown _ _ _ _) (L3.set_grown _ _ _ _)) (L3.set_grown _ _ _ _)) (L3.set_grown _ _ _ _)) (L3.set_grown _ _ _ _)) (L3.set_grown _ _ _ _)) (L3.set_grown _ _ _ _)
theorem grown8 (W : World) (b : Nat) (a0 a1 a2 a3 a4 a5 a6 a7 : Value) :
  W.grownBy ((((((((W.setCell ⟨b,0,none⟩ a0).setCell ⟨b,1,none⟩ a1).setCell ⟨b,2,none⟩ a2).setCell ⟨b,3,none⟩ a3).setCell ⟨b,4,none⟩ a4).setCell ⟨b,5,none⟩ a5).setCell ⟨b,6,none⟩ a6).setCell ⟨b,7,none⟩ a7) (some b) :=
 L3.grown_trans (grown7 W b a0 a1 a2 a3 a4 a5 a6) (L3.set_grown _ _ _ _)
theorem Bd.grown {w W : World} {lo pb r : Nat} {l : List L3.Cp.C} {er : Int} (h : Bd w lo pb l er) (hg : w.grownBy W (some r)) (h1 : lo ≤ r) (h2 : r < pb) : Bd W lo pb l er:=by
 obtain ⟨v,hx,hs⟩:=h.box
 exact ⟨⟨v,L3.BX.grown (show L3.BX w pb _ _ from hx) hg (fun e=>by have:=Option.some.inj e;omega),fun X k=>hs X ((Kx.grown hg h1 (by omega)).trans k)⟩,h.sz,h.lo⟩
theorem five {w : World} {c0 c1 c2 c3 c4 : Array Value} {T0 T1 T2 T3 T4 : TypeId} {W : World} (h : W = ((((w.alloc (.cells c0 T0)).alloc (.cells c1 T1)).alloc (.cells c2 T2)).alloc (.cells c3 T3)).alloc (.cells c4 T4)) :
  L3.BX W w.heap.size c0 T0 ∧ L3.BX W (w.heap.size + 1) c1 T1 ∧ L3.BX W (w.heap.size + 1 + 1) c2 T2 ∧ L3.BX W (w.heap.size + 1 + 1 + 1) c3 T3 ∧ L3.BX W (w.heap.size + 1 + 1 + 1 + 1) c4 T4 ∧ W.heap.size = w.heap.size + 5 ∧ Below w.heap.size w W:=by
 subst h
 have b0:=BX.al (BX.al (BX.al (BX.al (L3.BX.new w c0 T0) (.cells c1 T1)) (.cells c2 T2)) (.cells c3 T3)) (.cells c4 T4)
 have b1:=BX.al (BX.al (BX.al (L3.BX.new (w.alloc (.cells c0 T0)) c1 T1) (.cells c2 T2)) (.cells c3 T3)) (.cells c4 T4)
 have b2:=BX.al (BX.al (L3.BX.new ((w.alloc (.cells c0 T0)).alloc (.cells c1 T1)) c2 T2) (.cells c3 T3)) (.cells c4 T4)
 have b3:=BX.al (L3.BX.new (((w.alloc (.cells c0 T0)).alloc (.cells c1 T1)).alloc (.cells c2 T2)) c3 T3) (.cells c4 T4)
 have b4:=L3.BX.new ((((w.alloc (.cells c0 T0)).alloc (.cells c1 T1)).alloc (.cells c2 T2)).alloc (.cells c3 T3)) c4 T4
 simp only [World.size_alloc] at b1 b2 b3 b4
 exact ⟨b0,b1,b2,b3,b4,by simp only [World.size_alloc],BLw⟩
end Go.Proofs.YtnojgiflgmnjlaaGreatDoor
namespace Go.Proofs.YtnojgiflgmnjlaaGreatDoor
open Go.RowKit
theorem bP5lt {W : World} {b : Nat} {cs : Array Value} {T : TypeId} (h : L3.BX W b cs T) : b < W.heap.size:=h.sz
theorem OMb.ren {w : World} {base : Nat} {m : Cf.Mb} {cv hv : Value} (h : OMb w base (mL m cv hv) m) (a b : Int) : OMb w base (mL { m with nm:=a,ds:=b } cv hv) { m with nm:=a,ds:=b }:=by
 obtain ⟨cv',hv',he,h⟩:=h
 obtain ⟨rfl,rfl⟩ : cv = cv' ∧ hv = hv':=by simpa [mL] using he
 exact ⟨_,_,rfl,h⟩
def NdPost (c : Cf.Cl) (m : Cf.Mb) (a b : ByteArray) (w : World) (e : Ending) (w' : World) : Prop :=
 ∃ l1 i1 e1 l2 i2 e2,AdS c.pool 0 ⟨1,a,0,0,0⟩ l1 i1 e1 ∧ AdS l1 e1 ⟨1,b,0,0,0⟩ l2 i2 e2 ∧
  ((e2 ≠ 0 ∧ e = .returned (.tuple #[K0V,mbV Cf.M0 (.slice none 0 0) (.slice none 0 0),.int .i64 e2])) ∨
   (e2 = 0 ∧ ∃ vs' cv' hv',e = .returned (.tuple #[.agg vs',mbV { m with nm:=(i1 : Nat),ds:=(i2 : Nat) } cv' hv',.int .i64 0]) ∧ OCl w' w.heap.size vs' { c with pool:=l2 } ∧ OMb w' w.heap.size (mL { m with nm:=(i1 : Nat),ds:=(i2 : Nat) } cv' hv') { m with nm:=(i1 : Nat),ds:=(i2 : Nat) } ∧ PoolSz l2 ∧ ApV vs')) ∧
  Below w.heap.size w w'
set_option maxHeartbeats 4000000 in
theorem named_any (c : Cf.Cl) (vs : Array Value) (m : Cf.Mb) (cv hv : Value) (a b : ByteArray) (w : World) (ht : L3.Tabs w) (h : ClR w vs c) (hs : Cf.Szc c) (hz : PoolSz c.pool) (hB : L3.Bs w.heap.size w cv m.code) (hH : Kit.IsS 4 w hv m.hs.length (m.hs.flatMap hL))
  (hmc : m.code.length ≤ 140737488355328) (hmh : m.hs.length * 32 ≤ 140737488355328) (ha : a.size ≤ 140737488355328) (hb : b.size ≤ 140737488355328) :
  Calls Tryz.prog 65 #[.agg vs,mbV m cv hv,.string a,.string b] w (NdPost c m a b w):=by
 have HT:=hid ht
 have HCm:=hid (fun W (k : Below w.heap.size w W)=>cloneMember_any m cv hv W ((hB.below k (Nat.le_refl _)).mono k.size) (hH.below k (Nat.le_refl _)) hmc hmh)
 obtain ⟨pv,fv,mv,rfl,hp,hf,hm⟩:=h
 obtain ⟨pa,pc,rfl⟩:=hp.len
 obtain ⟨fa,fc,rfl⟩:=hf.len
 obtain ⟨ma2,mc,rfl⟩:=hm.len
 obtain ⟨xa,xc,rfl⟩:=hB.len
 obtain ⟨ya,yc,rfl⟩:=hH.len
 have HIn:=hid (And.intro hp (And.intro hf hm))
 have HSz:=hid hs
 have HPz:=hid hz
 have HAa:=hid ha
 have HBb:=hid hb
 obtain ⟨mi,ma,P,ac,th,su,fs,ms⟩:=c
 obtain ⟨mac,mnm,mds,mst,mlc,co,hs9⟩:=m
 unfold mbV at HCm ⊢
 dsimp only at HCm HIn HSz HPz ⊢
 clear ht hp hf hm hB hH hmc hmh ha hb hs hz
 go_enter Tryz.func65,Tryz.ntmps65
 go_wp2_with fail
 obtain ⟨W1,hW1⟩ : ∃ W1,W1 = (((((w.alloc (.cells #[.int .i64 mi,.int .i64 ma,.slice pa P.length pc,.int .i64 ac,.int .i64 th,.int .i64 su,.slice fa fs.length fc,.slice ma2 ms.length mc] 26)).alloc (.cells #[.int .i64 mac,.int .i64 mnm,.int .i64 mds,.int .i64 mst,.int .i64 mlc,.slice xa co.length xc,.slice ya hs9.length yc] 42)).alloc (.cells #[.int .i64 0,.int .i64 0,.slice none 0 0,.int .i64 0,.int .i64 0,.int .i64 0,.slice none 0 0,.slice none 0 0] 26)).alloc (.cells #[.int .i64 0,.int .i64 0,.int .i64 0,.int .i64 0,.int .i64 0,.slice none 0 0,.slice none 0 0] 42)).alloc (.cells #[.slice pa P.length pc,.int .i64 0] 95)):=⟨_,rfl⟩
 obtain ⟨bC,bM,bR,bS,bP,hzW,B1⟩:=five hW1
 rw [← hW1]
 have hBd:=Bd.start HIn.out.1 HPz.out B1 bP (by omega)
 have HB1:=hid B1
 have HBd1:=hid hBd
 have BC1:=hid bC
 have BM1:=hid bM
 have BR1:=hid bR
 have BS1:=hid bS
 have HT1:=hid (HT.out.below B1 HT.out.size)
 clear hW1 bC bM bR bS bP hBd B1
 go_wp2_with (first|(go_at_call 78;refine (HCm.out _ HB1.out).mono ?_;rintro e w2 ⟨cv2,hv2,rfl,oM,hb2⟩;obtain ⟨cv3,hv3,he3,oc,oh,hl1,hl2⟩:=oM;obtain ⟨rfl,rfl⟩ : cv2 = cv3 ∧ hv2 = hv3:=(by simpa [mL] using he3);obtain ⟨xa2,xc2,rfl⟩:=L3.own_form oc;obtain ⟨ya2,yc2,rfl⟩:=L3.own_form oh;have OM2:=hid (show OMb w2 W1.heap.size (mL ⟨mac,mnm,mds,mst,mlc,co,hs9⟩ (.slice xa2 co.length xc2) (.slice ya2 hs9.length yc2)) ⟨mac,mnm,mds,mst,mlc,co,hs9⟩ from ⟨_,_,rfl,oc,oh,hl1,hl2⟩);have HB2:=hid hb2;have bM:=BM1.out.below hb2 BM1.out.sz;have m0:=bM.cell 0;have fm0:=bM.frozen 0;have m1:=bM.cell 1;have fm1:=bM.frozen 1;have m2:=bM.cell 2;have fm2:=bM.frozen 2;have m3:=bM.cell 3;have fm3:=bM.frozen 3;have m4:=bM.cell 4;have fm4:=bM.frozen 4;have m5:=bM.cell 5;have fm5:=bM.frozen 5;have m6:=bM.cell 6;have fm6:=bM.frozen 6;simp at m0 m1 m2 m3 m4 m5 m6;clear bM hb2 oc oh he3)|(go_at_call 69;have _g:=HB2;(fail_if_success (have _g:=HS1));have g2:=grown7 w2 (w.heap.size + 1) (.int .i64 mac) (.int .i64 mnm) (.int .i64 mds) (.int .i64 mst) (.int .i64 mlc) (.slice xa2 co.length xc2) (.slice ya2 hs9.length yc2);have bM:=put7 (BM1.out.below HB2.out BM1.out.sz) rfl (.int .i64 mac) (.int .i64 mnm) (.int .i64 mds) (.int .i64 mst) (.int .i64 mlc) (.slice xa2 co.length xc2) (.slice ya2 hs9.length yc2);obtain ⟨W2,hW2⟩ : ∃ W,W = (((((((w2.setCell ⟨w.heap.size + 1,0,none⟩ (.int .i64 mac)).setCell ⟨w.heap.size + 1,1,none⟩ (.int .i64 mnm)).setCell ⟨w.heap.size + 1,2,none⟩ (.int .i64 mds)).setCell ⟨w.heap.size + 1,3,none⟩ (.int .i64 mst)).setCell ⟨w.heap.size + 1,4,none⟩ (.int .i64 mlc)).setCell ⟨w.heap.size + 1,5,none⟩ (.slice xa2 co.length xc2)).setCell ⟨w.heap.size + 1,6,none⟩ (.slice ya2 hs9.length yc2)):=⟨_,rfl⟩;rw [← hW2] at g2 bM ⊢;have bC:=(BC1.out.below HB2.out BC1.out.sz).grown g2 (fun e=>by (have:=Option.some.inj e;omega));have bR:=(BR1.out.below HB2.out BR1.out.sz).grown g2 (fun e=>by (have:=Option.some.inj e;omega));have bS:=(BS1.out.below HB2.out BS1.out.sz).grown g2 (fun e=>by (have:=Option.some.inj e;omega));have hBd:=(HBd1.out.below HB2.out).grown g2 (by omega) (by omega);have oM:=OM2.out.grown g2 (by omega);have B2 : Below w.heap.size w W2:=nwB (belows HB1.out HB2.out HB1.out.size) g2 ⟨by omega,by (have:=HB1.out.size;have:=HB2.out.size;omega)⟩;refine (btext_any w.heap.size (w.heap.size + 1 + 1 + 1 + 1) P 0 a W2 (HT.out.below B2 HT.out.size) hBd HAa.out).mono ?_;rintro e w3 ⟨l1,i1,e1,hS1,rfl,hg3,hB3⟩;have HS1:=hid hS1;have HBd3:=hid hB3;have bC:=bC.grown hg3 (fun e=>by (have:=Option.some.inj e;omega));have bM:=bM.grown hg3 (fun e=>by (have:=Option.some.inj e;omega));have bR:=bR.grown hg3 (fun e=>by (have:=Option.some.inj e;omega));have bS:=bS.grown hg3 (fun e=>by (have:=Option.some.inj e;omega));have oM:=oM.grown hg3 (by omega);have B3 : Below w.heap.size w w3:=nwB B2 hg3 ⟨by omega,B2.size⟩;have HB3:=hid B3;have BC3:=hid bC;have BM3:=hid bM;have BR3:=hid bR;have BS3:=hid bS;have OM3:=hid oM;clear m0 m1 m2 m3 m4 m5 m6 fm0 fm1 fm2 fm3 fm4 fm5 fm6;have m1:=bM.cell 1;have fm1:=bM.frozen 1;simp at m1;clear hW2 g2 bM bC bR bS hBd oM B2 B3 hS1 hg3 hB3)|(go_at_call 69;have _g:=HS1;(fail_if_success (have _g:=HS2));have g2:=L3.set_grown w3 (w.heap.size + 1) 1 (.int .i64 (i1 : Nat));have bM:=BM3.out.set 1 (.int .i64 (i1 : Nat));obtain ⟨W2,hW2⟩ : ∃ W,W = w3.setCell ⟨w.heap.size + 1,1,none⟩ (.int .i64 (i1 : Nat)):=⟨_,rfl⟩;rw [← hW2] at g2 bM ⊢;have bC:=BC3.out.grown g2 (fun e=>by (have:=Option.some.inj e;omega));have bR:=BR3.out.grown g2 (fun e=>by (have:=Option.some.inj e;omega));have bS:=BS3.out.grown g2 (fun e=>by (have:=Option.some.inj e;omega));have hBd:=HBd3.out.grown g2 (by omega) (by omega);have oM:=OM3.out.grown g2 (by omega);have B2 : Below w.heap.size w W2:=nwB HB3.out g2 ⟨by omega,HB3.out.size⟩;refine (btext_any w.heap.size (w.heap.size + 1 + 1 + 1 + 1) l1 e1 b W2 (HT.out.below B2 HT.out.size) hBd HBb.out).mono ?_;rintro e w4 ⟨l2,i2,e2,hS2,rfl,hg4,hB4⟩;have HS2:=hid hS2;have HBd4:=hid hB4;have bC:=bC.grown hg4 (fun e=>by (have:=Option.some.inj e;omega));have bM:=bM.grown hg4 (fun e=>by (have:=Option.some.inj e;omega));have bR:=bR.grown hg4 (fun e=>by (have:=Option.some.inj e;omega));have bS:=bS.grown hg4 (fun e=>by (have:=Option.some.inj e;omega));have oM:=oM.grown hg4 (by omega);have B4 : Below w.heap.size w w4:=nwB B2 hg4 ⟨by omega,B2.size⟩;have HB4:=hid B4;have BC4:=hid bC;have BM4:=hid bM;have BR4:=hid bR;have BS4:=hid bS;have OM4:=hid oM;clear m1 fm1;have m2:=bM.cell 2;have fm2:=bM.frozen 2;simp at m2;obtain ⟨ba,bcap,d0,d1,hSt⟩:=bd_cells hB4;have HSt:=hid hSt;clear hSt;have c2:=bC.cell 2;have fc2:=bC.frozen 2;simp at c2;clear hW2 g2 bM bC bR bS hBd oM B2 B4 hS2 hg4 hB4;by_cases hz : e2 = 0;all_goals (first|subst hz|(have hdd : (e2 != 0) = true:=(by simpa using hz);have HZ:=hid hz;clear hz))))
 ·have g5:=L3.set_grown w4 (w.heap.size + 1) 2 (.int .i64 (i2 : Nat))
  have g6:=L3.set_grown (w4.setCell ⟨w.heap.size + 1,2,none⟩ (.int .i64 (i2 : Nat))) w.heap.size 2 (.slice ba l2.length bcap)
  have bC:=(BC4.out.grown g5 (fun e=>by (have:=Option.some.inj e;omega))).set 2 (.slice ba l2.length bcap)
  have bM:=(BM4.out.set 2 (.int .i64 (i2 : Nat))).grown g6 (fun e=>by (have:=Option.some.inj e;omega))
  have bR:=(BR4.out.grown g5 (fun e=>by (have:=Option.some.inj e;omega))).grown g6 (fun e=>by (have:=Option.some.inj e;omega))
  have bS:=(BS4.out.grown g5 (fun e=>by (have:=Option.some.inj e;omega))).grown g6 (fun e=>by (have:=Option.some.inj e;omega))
  have oM:=(OM4.out.grown g5 (by omega)).grown g6 (by omega)
  have B5 : Below w.heap.size w ((w4.setCell ⟨w.heap.size + 1,2,none⟩ (.int .i64 (i2 : Nat))).setCell ⟨w.heap.size,2,none⟩ (.slice ba l2.length bcap)):=nwB (nwB HB4.out g5 ⟨by omega,HB4.out.size⟩) g6 ⟨Nat.le_refl _,by rw [World.size_setCell];exact HB4.out.size⟩
  have hP5:=HSt.out _ (((Kx.refl w.heap.size (w.heap.size + 1 + 1 + 1 + 1) w4).set ⟨by omega,by omega⟩ (.int .i64 (i2 : Nat)) (r:=w.heap.size + 1) (j:=2)).set ⟨Nat.le_refl _,by omega⟩ (.slice ba l2.length bcap) (r:=w.heap.size) (j:=2))
  obtain ⟨W5,hW5⟩ : ∃ W,W = (w4.setCell ⟨w.heap.size + 1,2,none⟩ (.int .i64 (i2 : Nat))).setCell ⟨w.heap.size,2,none⟩ (.slice ba l2.length bcap):=⟨_,rfl⟩
  rw [← hW5] at bC bM bR bS oM B5 hP5 ⊢
  simp only [List.setIfInBounds_toArray,List.set_cons_zero,List.set_cons_succ] at bC bM
  have HR5:=hid (show ClR W5 #[.int .i64 mi,.int .i64 ma,.slice ba l2.length bcap,.int .i64 ac,.int .i64 th,.int .i64 su,.slice fa fs.length fc,.slice ma2 ms.length mc] ⟨mi,ma,l2,ac,th,su,fs,ms⟩ from ⟨_,_,_,rfl,hP5,HIn.out.2.1.below B5 (Nat.le_refl _),HIn.out.2.2.below B5 (Nat.le_refl _)⟩)
  have HSz5:=hid (show Cf.Szc ⟨mi,ma,l2,ac,th,su,fs,ms⟩ from ⟨HBd4.out.sz.1,HSz.out.2⟩)
  have HCl:=hid (fun W (k : Below W5.heap.size W5 W)=>clone_any ⟨mi,ma,l2,ac,th,su,fs,ms⟩ _ W (HR5.out.below k (Nat.le_refl _)) HSz5.out)
  have cfC:=fun (u : Value) (w : World)=>(show (callFunc 33 #[u]).run Tryz.prog w = .ok (.enter 33 #[u]) w by kernel_rfl)
  have BM5:=hid bM
  have BR5:=hid bR
  have BS5:=hid bS
  have OM5:=hid oM
  have HB5:=hid B5
  have hzb5:=bP5lt bS
  obtain ⟨c0,c1,c2,c3,c4,c5,c6,c7⟩:=bC.cells8
  obtain ⟨n0,n1,n2,n3,n4,n5,n6⟩:=bM.cells7
  clear hW5 bC bM bR bS oM B5 hP5 g5 g6 d0 d1 m2 fm2
  go_region_law (refine Kit.step_call1 rfl 33 (.tmp 33) 26 rfl _ rfl (cfC _ _) _ (HCl.out _ BLw) ?_;rintro e w9 ⟨vs9,rfl,oC,hap,hb9⟩;refine ⟨_,rfl,?_⟩;have B9 : Below W5.heap.size W5 w9:=(by first|exact hb9|exact below_undrew hb9);have oC:=hid (oC.mono (base':=W5.heap.size) (by simp));obtain ⟨pv9,fv9,mv9,rfl,o1,o2,o3⟩:=oC.out;obtain ⟨pa9,pc9,rfl⟩:=L3.own_form o1;obtain ⟨fa9,fc9,rfl⟩:=OMs.form o2;obtain ⟨ma9,mc9,rfl⟩:=OMs.form o3;clear o1 o2 o3;have bM9:=BM5.out.below B9 BM5.out.sz;have bR9:=BR5.out.below B9 BR5.out.sz;have bS9:=BS5.out.below B9 BS5.out.sz;clear n0 n1 n2 n3 n4 n5 n6;obtain ⟨n0,n1,n2,n3,n4,n5,n6⟩:=bM9.cells7;have r0:=bR9.cell 0;have fr0:=bR9.frozen 0;have r1:=bR9.cell 1;have fr1:=bR9.frozen 1;have r2:=bR9.cell 2;have fr2:=bR9.frozen 2;have r3:=bR9.cell 3;have fr3:=bR9.frozen 3;have r4:=bR9.cell 4;have fr4:=bR9.frozen 4;have r5:=bR9.cell 5;have fr5:=bR9.frozen 5;have r6:=bR9.cell 6;have fr6:=bR9.frozen 6;have r7:=bR9.cell 7;have fr7:=bR9.frozen 7;simp at r0 r1 r2 r3 r4 r5 r6 r7;have s0:=bS9.cell 0;have fs0:=bS9.frozen 0;have s1:=bS9.cell 1;have fs1:=bS9.frozen 1;have s2:=bS9.cell 2;have fs2:=bS9.frozen 2;have s3:=bS9.cell 3;have fs3:=bS9.frozen 3;have s4:=bS9.cell 4;have fs4:=bS9.frozen 4;have s5:=bS9.cell 5;have fs5:=bS9.frozen 5;have s6:=bS9.cell 6;have fs6:=bS9.frozen 6;simp at s0 s1 s2 s3 s4 s5 s6)
  all_goals
   have g8:=grown8 w9 (w.heap.size + 1 + 1) (.int .i64 mi) (.int .i64 ma) (.slice pa9 l2.length pc9) (.int .i64 ac) (.int .i64 th) (.int .i64 su) (.slice fa9 fs.length fc9) (.slice ma9 ms.length mc9)
   have g7:=grown7 ((((((((w9.setCell ⟨w.heap.size + 1 + 1,0,none⟩ (.int .i64 mi)).setCell ⟨w.heap.size + 1 + 1,1,none⟩ (.int .i64 ma)).setCell ⟨w.heap.size + 1 + 1,2,none⟩ (.slice pa9 l2.length pc9)).setCell ⟨w.heap.size + 1 + 1,3,none⟩ (.int .i64 ac)).setCell ⟨w.heap.size + 1 + 1,4,none⟩ (.int .i64 th)).setCell ⟨w.heap.size + 1 + 1,5,none⟩ (.int .i64 su)).setCell ⟨w.heap.size + 1 + 1,6,none⟩ (.slice fa9 fs.length fc9)).setCell ⟨w.heap.size + 1 + 1,7,none⟩ (.slice ma9 ms.length mc9)) (w.heap.size + 1 + 1 + 1) (.int .i64 mac) (.int .i64 (i1 : Nat)) (.int .i64 (i2 : Nat)) (.int .i64 mst) (.int .i64 mlc) (.slice xa2 co.length xc2) (.slice ya2 hs9.length yc2)
   have bR:=(put8 bR9 rfl (.int .i64 mi) (.int .i64 ma) (.slice pa9 l2.length pc9) (.int .i64 ac) (.int .i64 th) (.int .i64 su) (.slice fa9 fs.length fc9) (.slice ma9 ms.length mc9)).grown g7 (fun e=>by (have:=Option.some.inj e;omega))
   have bS:=put7 (bS9.grown g8 (fun e=>by (have:=Option.some.inj e;omega))) rfl (.int .i64 mac) (.int .i64 (i1 : Nat)) (.int .i64 (i2 : Nat)) (.int .i64 mst) (.int .i64 mlc) (.slice xa2 co.length xc2) (.slice ya2 hs9.length yc2)
   have oC:=((oC.out.grown g8 (by omega)).grown g7 (by omega)).mono (base':=w.heap.size) (by omega)
   have oM:=((((OM5.out.below B9 (Nat.le_refl _)).grown g8 (by omega)).grown g7 (by omega)).mono (base':=w.heap.size) (by omega)).ren (i1 : Nat) (i2 : Nat)
   have B10:=nwB (nwB (belows HB5.out B9 HB5.out.size) g8 ⟨by omega,by (have:=HB5.out.size;have:=B9.size;omega)⟩) g7 ⟨by omega,by (have:=HB5.out.size;have:=B9.size;have:=g8.size;omega)⟩
   clear r0 r1 r2 r3 r4 r5 r6 r7 s0 s1 s2 s3 s4 s5 s6 n0 n1 n2 n3 n4 n5 n6 fr0 fr1 fr2 fr3 fr4 fr5 fr6 fr7 fs0 fs1 fs2 fs3 fs4 fs5 fs6
   obtain ⟨W10,hW10⟩ : ∃ W,W = (((((((((((((((w9.setCell ⟨w.heap.size + 1 + 1,0,none⟩ (.int .i64 mi)).setCell ⟨w.heap.size + 1 + 1,1,none⟩ (.int .i64 ma)).setCell ⟨w.heap.size + 1 + 1,2,none⟩ (.slice pa9 l2.length pc9)).setCell ⟨w.heap.size + 1 + 1,3,none⟩ (.int .i64 ac)).setCell ⟨w.heap.size + 1 + 1,4,none⟩ (.int .i64 th)).setCell ⟨w.heap.size + 1 + 1,5,none⟩ (.int .i64 su)).setCell ⟨w.heap.size + 1 + 1,6,none⟩ (.slice fa9 fs.length fc9)).setCell ⟨w.heap.size + 1 + 1,7,none⟩ (.slice ma9 ms.length mc9)).setCell ⟨w.heap.size + 1 + 1 + 1,0,none⟩ (.int .i64 mac)).setCell ⟨w.heap.size + 1 + 1 + 1,1,none⟩ (.int .i64 (i1 : Nat))).setCell ⟨w.heap.size + 1 + 1 + 1,2,none⟩ (.int .i64 (i2 : Nat))).setCell ⟨w.heap.size + 1 + 1 + 1,3,none⟩ (.int .i64 mst)).setCell ⟨w.heap.size + 1 + 1 + 1,4,none⟩ (.int .i64 mlc)).setCell ⟨w.heap.size + 1 + 1 + 1,5,none⟩ (.slice xa2 co.length xc2)).setCell ⟨w.heap.size + 1 + 1 + 1,6,none⟩ (.slice ya2 hs9.length yc2)):=⟨_,rfl⟩
   rw [← hW10] at bR bS oC oM B10 ⊢
   clear hW10 g8 g7
   obtain ⟨r0,r1,r2,r3,r4,r5,r6,r7⟩:=bR.cells8
   obtain ⟨s0,s1,s2,s3,s4,s5,s6⟩:=bS.cells7
   go_wp2
   exact bodyPost_ret (v:=.tuple #[.agg #[.int .i64 mi,.int .i64 ma,.slice pa9 l2.length pc9,.int .i64 ac,.int .i64 th,.int .i64 su,.slice fa9 fs.length fc9,.slice ma9 ms.length mc9],.agg #[.int .i64 mac,.int .i64 (i1 : Nat),.int .i64 (i2 : Nat),.int .i64 mst,.int .i64 mlc,.slice xa2 co.length xc2,.slice ya2 hs9.length yc2],.int .i64 0]) (by simp [results,Tryz.results65,go_sem,r0,r1,r2,r3,r4,r5,r6,r7,s0,s1,s2,s3,s4,s5,s6]) rfl (by unfold NdPost;exact ⟨l1,i1,e1,l2,i2,0,HS1.out,HS2.out,.inr ⟨rfl,_,_,_,rfl,oC,oM,HBd4.out.sz,hap⟩,B10⟩)
 ·have g5:=L3.set_grown w4 (w.heap.size + 1) 2 (.int .i64 (i2 : Nat))
  have bR:=BR4.out.grown g5 (fun e=>by (have:=Option.some.inj e;omega))
  have bS:=BS4.out.grown g5 (fun e=>by (have:=Option.some.inj e;omega))
  have B5 : Below w.heap.size w (w4.setCell ⟨w.heap.size + 1,2,none⟩ (.int .i64 (i2 : Nat))):=nwB HB4.out g5 ⟨by omega,HB4.out.size⟩
  have d15:=(World.cell?_of_block (a:=⟨w.heap.size + 1 + 1 + 1 + 1,1,none⟩) (g5.block (w.heap.size + 1 + 1 + 1 + 1) HBd4.out.lt (fun e=>by (have:=Option.some.inj e;omega)))).trans d1
  obtain ⟨W5,hW5⟩ : ∃ W,W = w4.setCell ⟨w.heap.size + 1,2,none⟩ (.int .i64 (i2 : Nat)):=⟨_,rfl⟩
  rw [← hW5] at bR bS B5 d15 ⊢
  have r0:=bR.cell 0;have fr0:=bR.frozen 0;have r1:=bR.cell 1;have fr1:=bR.frozen 1;have r2:=bR.cell 2;have fr2:=bR.frozen 2;have r3:=bR.cell 3;have fr3:=bR.frozen 3;have r4:=bR.cell 4;have fr4:=bR.frozen 4;have r5:=bR.cell 5;have fr5:=bR.frozen 5;have r6:=bR.cell 6;have fr6:=bR.frozen 6;have r7:=bR.cell 7;have fr7:=bR.frozen 7;simp at r0 r1 r2 r3 r4 r5 r6 r7
  have s0:=bS.cell 0;have fs0:=bS.frozen 0;have s1:=bS.cell 1;have fs1:=bS.frozen 1;have s2:=bS.cell 2;have fs2:=bS.frozen 2;have s3:=bS.cell 3;have fs3:=bS.frozen 3;have s4:=bS.cell 4;have fs4:=bS.frozen 4;have s5:=bS.cell 5;have fs5:=bS.frozen 5;have s6:=bS.cell 6;have fs6:=bS.frozen 6;simp at s0 s1 s2 s3 s4 s5 s6
  clear hW5 g5 d0 d1 m2 fm2
  go_region
  all_goals
   have g8:=grown8 W5 (w.heap.size + 1 + 1) (.int .i64 0) (.int .i64 0) (.slice none 0 0) (.int .i64 0) (.int .i64 0) (.int .i64 0) (.slice none 0 0) (.slice none 0 0)
   have g7:=grown7 ((((((((W5.setCell ⟨w.heap.size + 1 + 1,0,none⟩ (.int .i64 0)).setCell ⟨w.heap.size + 1 + 1,1,none⟩ (.int .i64 0)).setCell ⟨w.heap.size + 1 + 1,2,none⟩ (.slice none 0 0)).setCell ⟨w.heap.size + 1 + 1,3,none⟩ (.int .i64 0)).setCell ⟨w.heap.size + 1 + 1,4,none⟩ (.int .i64 0)).setCell ⟨w.heap.size + 1 + 1,5,none⟩ (.int .i64 0)).setCell ⟨w.heap.size + 1 + 1,6,none⟩ (.slice none 0 0)).setCell ⟨w.heap.size + 1 + 1,7,none⟩ (.slice none 0 0)) (w.heap.size + 1 + 1 + 1) (.int .i64 0) (.int .i64 0) (.int .i64 0) (.int .i64 0) (.int .i64 0) (.slice none 0 0) (.slice none 0 0)
   have bR:=(put8 bR rfl (.int .i64 0) (.int .i64 0) (.slice none 0 0) (.int .i64 0) (.int .i64 0) (.int .i64 0) (.slice none 0 0) (.slice none 0 0)).grown g7 (fun e=>by (have:=Option.some.inj e;omega))
   have bS:=put7 (bS.grown g8 (fun e=>by (have:=Option.some.inj e;omega))) rfl (.int .i64 0) (.int .i64 0) (.int .i64 0) (.int .i64 0) (.int .i64 0) (.slice none 0 0) (.slice none 0 0)
   have B10:=nwB (nwB B5 g8 ⟨by omega,B5.size⟩) g7 ⟨by omega,by (have:=B5.size;have:=g8.size;omega)⟩
   clear r0 r1 r2 r3 r4 r5 r6 r7 s0 s1 s2 s3 s4 s5 s6 fr0 fr1 fr2 fr3 fr4 fr5 fr6 fr7 fs0 fs1 fs2 fs3 fs4 fs5 fs6
   obtain ⟨W10,hW10⟩ : ∃ W,W = (((((((((((((((W5.setCell ⟨w.heap.size + 1 + 1,0,none⟩ (.int .i64 0)).setCell ⟨w.heap.size + 1 + 1,1,none⟩ (.int .i64 0)).setCell ⟨w.heap.size + 1 + 1,2,none⟩ (.slice none 0 0)).setCell ⟨w.heap.size + 1 + 1,3,none⟩ (.int .i64 0)).setCell ⟨w.heap.size + 1 + 1,4,none⟩ (.int .i64 0)).setCell ⟨w.heap.size + 1 + 1,5,none⟩ (.int .i64 0)).setCell ⟨w.heap.size + 1 + 1,6,none⟩ (.slice none 0 0)).setCell ⟨w.heap.size + 1 + 1,7,none⟩ (.slice none 0 0)).setCell ⟨w.heap.size + 1 + 1 + 1,0,none⟩ (.int .i64 0)).setCell ⟨w.heap.size + 1 + 1 + 1,1,none⟩ (.int .i64 0)).setCell ⟨w.heap.size + 1 + 1 + 1,2,none⟩ (.int .i64 0)).setCell ⟨w.heap.size + 1 + 1 + 1,3,none⟩ (.int .i64 0)).setCell ⟨w.heap.size + 1 + 1 + 1,4,none⟩ (.int .i64 0)).setCell ⟨w.heap.size + 1 + 1 + 1,5,none⟩ (.slice none 0 0)).setCell ⟨w.heap.size + 1 + 1 + 1,6,none⟩ (.slice none 0 0)):=⟨_,rfl⟩
   rw [← hW10] at bR bS B10 ⊢
   clear hW10 g8 g7
   obtain ⟨r0,r1,r2,r3,r4,r5,r6,r7⟩:=bR.cells8
   obtain ⟨s0,s1,s2,s3,s4,s5,s6⟩:=bS.cells7
   go_wp2
   exact bodyPost_ret (v:=.tuple #[.agg #[.int .i64 0,.int .i64 0,.slice none 0 0,.int .i64 0,.int .i64 0,.int .i64 0,.slice none 0 0,.slice none 0 0],.agg #[.int .i64 0,.int .i64 0,.int .i64 0,.int .i64 0,.int .i64 0,.slice none 0 0,.slice none 0 0],.int .i64 e2]) (by simp [results,Tryz.results65,go_sem,r0,r1,r2,r3,r4,r5,r6,r7,s0,s1,s2,s3,s4,s5,s6]) rfl (by unfold NdPost;exact ⟨l1,i1,e1,l2,i2,e2,HS1.out,HS2.out,.inl ⟨HZ.out,rfl⟩,BLw⟩)
end Go.Proofs.YtnojgiflgmnjlaaGreatDoor
