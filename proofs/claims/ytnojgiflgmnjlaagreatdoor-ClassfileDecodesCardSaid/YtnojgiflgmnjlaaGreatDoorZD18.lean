/- Own texts for the claim, part 18. -/
import Derived.Test.YtnojgiflgmnjlaaGreatDoorZD17
set_option maxRecDepth 100000
namespace Go.Proofs.YtnojgiflgmnjlaaGreatDoor
open Go.RowKit
theorem owns_set {w : World} {base : Nat} {e : TypeId} {size g n cap : Nat} {xs : List Value} (h : w.ownsRow base e size (.slice (some ⟨g,0,none⟩) n cap) n xs) (i : Nat) (u : Value) :
  (w.setCell ⟨g,i,none⟩ u).ownsRow base e size (.slice (some ⟨g,0,none⟩) n cap) n (xs.set i u):=by
 refine ⟨by rw [List.length_set];exact h.1,?_⟩
 rcases h.2 with ⟨h2,-⟩|⟨g',cap',cur,hv,hg,hh,h1,h2,h3,h4⟩
 ·cases h2
 ·obtain ⟨e1,-,rfl⟩:=Value.slice.inj hv
  obtain rfl : g = g':=by simpa using e1
  refine .inr ⟨g,cap,cur.setIfInBounds i u,rfl,hg,?_,h1,h2,by rw [Array.size_setIfInBounds];exact h3,?_⟩
  ·obtain ⟨hlt,hk⟩:=Array.getElem?_eq_some_iff.1 hh
   show (w.heap.modify g _)[g]? = _
   rw [Array.getElem?_eq_getElem (by rw [Array.size_modify];exact hlt),Array.getElem_modify_self,hk]
   rfl
  ·rw [Array.toList_setIfInBounds,← h4]
   exact List.take_set
theorem set7 {a0 a1 a2 a3 a4 a5 a6 : Value} : ∀ {rs : List (List Value)} {k : Nat},(∀ r ∈ rs,r.length = 7) → k < rs.length →
  (((((((rs.flatten.set (k * 7) a0).set (k * 7 + 1) a1).set (k * 7 + 2) a2).set (k * 7 + 3) a3).set (k * 7 + 4) a4).set (k * 7 + 5) a5).set (k * 7 + 6) a6) = (rs.set k [a0,a1,a2,a3,a4,a5,a6]).flatten
 | [],k,_,hk=>by simp at hk
 | r :: rs,0,h,_=>by
  have hr:=h r (by simp)
  match r,hr with
  | [x0,x1,x2,x3,x4,x5,x6],_=>simp
 | r :: rs,k + 1,h,hk=>by
  have hr:=h r (by simp)
  have ih:=set7 (a0:=a0) (a1:=a1) (a2:=a2) (a3:=a3) (a4:=a4) (a5:=a5) (a6:=a6) (rs:=rs) (k:=k) (fun x hx=>h x (by simp [hx])) (by simpa using hk)
  have hs : ∀ (l : List Value) (j : Nat) (u : Value),(r ++ l).set ((k + 1) * 7 + j) u = r ++ l.set (k * 7 + j) u:=by
   intro l j u
   rw [List.set_append,if_neg (by omega),hr]
   congr 2
   omega
  have hs0 : ∀ (l : List Value) (u : Value),(r ++ l).set ((k + 1) * 7) u = r ++ l.set (k * 7) u:=fun l u=>hs l 0 u
  rw [List.flatten_cons,hs0,hs,hs,hs,hs,hs,hs,ih]
  simp
def Half (w0 w : World) (base : Nat) (ms : List Cf.Mb) (k : Nat) (rs : List (List Value)) : Prop:=rs.length = ms.length ∧ ∀ j r m,rs[j]? = some r → ms[j]? = some m → (j < k → OMb w base r m) ∧ (k ≤ j → r.length = 7 ∧ MbR w0 r m)
theorem Half.lens {w0 w : World} {base : Nat} {ms : List Cf.Mb} {k : Nat} {rs : List (List Value)} (h : Half w0 w base ms k rs) : ∀ r ∈ rs,r.length = 7:=by
 intro r hr
 obtain ⟨j,hj⟩:=List.mem_iff_getElem?.1 hr
 have hlt : j < rs.length:=(List.getElem?_eq_some_iff.1 hj).1
 have hm : ms[j]? = some (ms[j]'(by rw [← h.1];exact hlt)):=List.getElem?_eq_getElem _
 by_cases e : j < k
 ·exact ((h.2 j r _ hj hm).1 e).len
 ·exact ((h.2 j r _ hj hm).2 (by omega)).1
theorem half_all {w0 w : World} {base : Nat} : ∀ {ms : List Cf.Mb} {rs : List (List Value)},Half w0 w base ms ms.length rs → All2 (OMb w base) rs ms
 | [],[],_=>trivial
 | m :: ms,r :: rs,h=>by
  refine ⟨(h.2 0 r m rfl rfl).1 (by simp),half_all (w0:=w0) ⟨by simpa using h.1,fun j x y hx hy=>⟨fun hj=>(h.2 (j + 1) x y (by simpa using hx) (by simpa using hy)).1 (by simpa using hj),fun hj=>?_⟩⟩⟩
  have:=(List.getElem?_eq_some_iff.1 hy).1
  omega
 | [],_ :: _,h=>by have:=h.1;simp at this
 | _ :: _,[],h=>by have:=h.1;simp at this
theorem half_new {w0 w : World} {base : Nat} : ∀ {ms : List Cf.Mb} {rs : List (List Value)},MsC w0 rs ms → Half w0 w base ms 0 rs
 | [],[],_=>⟨rfl,fun j r m h=>by simp at h⟩
 | m :: ms,r :: rs,h=>by
  obtain ⟨h1,h2⟩:=half_new (w:=w) (base:=base) h.2
  refine ⟨by simp [h1],fun j x y hx hy=>⟨fun hj=>by omega,fun _=>?_⟩⟩
  match j,hx,hy with
  | 0,hx,hy =>
   simp at hx hy
   subst hx hy
   exact ⟨h.1.len,h.1⟩
  | j + 1,hx,hy=>exact (h2 j x y (by simpa using hx) (by simpa using hy)).2 (Nat.zero_le _)
 | [],_ :: _,h=>h.elim
 | _ :: _,[],h=>h.elim
end Go.Proofs.YtnojgiflgmnjlaaGreatDoor
namespace Go.Proofs.YtnojgiflgmnjlaaGreatDoor
open Go.RowKit
theorem ones_rows {w : World} : ∀ {rs : List (List Value)} {ms : List Cf.Mb},MsC w rs ms → ∀ u ∈ rs.flatten,u.oneCell' = true
 | [],[],_,u,hu=>by simp at hu
 | r :: rs,m :: ms,h,u,hu=>by
  rw [List.flatten_cons,List.mem_append] at hu
  rcases hu with hu|hu
  ·obtain ⟨cv,hv,rfl,hb,hh,-⟩:=h.1
   obtain ⟨a,c,rfl⟩:=hb.len
   obtain ⟨a2,c2,rfl⟩:=hh.len
   simp at hu
   rcases hu with rfl|rfl|rfl|rfl|rfl|rfl|rfl <;> rfl
  ·exact ones_rows h.2 u hu
 | [],_ :: _,h,_,_=>h.elim
 | _ :: _,[],h,_,_=>h.elim
theorem Half.step {w0 w w' : World} {base k : Nat} {ms : List Cf.Mb} {rs : List (List Value)} {m : Cf.Mb} {r : List Value} (h : Half w0 w base ms k rs) (hm : ms[k]? = some m) (hr : OMb w' base r m) (hk : ∀ x y,OMb w base x y → OMb w' base x y) : Half w0 w' base ms (k + 1) (rs.set k r):=by
 refine ⟨by rw [List.length_set];exact h.1,fun j x y hx hy=>?_⟩
 by_cases e : j = k
 ·subst e
  rw [hm] at hy
  cases hy
  have hlt : j < rs.length:=by rw [h.1];exact (List.getElem?_eq_some_iff.1 hm).1
  rw [List.getElem?_set_self hlt] at hx
  cases hx
  exact ⟨fun _=>hr,fun hj=>by omega⟩
 ·rw [List.getElem?_set_ne (fun e2=>e e2.symm)] at hx
  obtain ⟨h1,h2⟩:=h.2 j x y hx hy
  exact ⟨fun hj=>hk _ _ (h1 (by omega)),fun hj=>h2 (by omega)⟩
theorem own_frozen {w : World} {base : Nat} {e : TypeId} {size g n cap : Nat} {xs : List Value} (h : w.ownsRow base e size (.slice (some ⟨g,0,none⟩) n cap) n xs) (j : Nat) : w.frozen? ⟨g,j,none⟩ = false:=by
 rcases h.2 with ⟨h1,-⟩|⟨g2,cap2,cur,h1,-,hh,-⟩
 ·cases h1
 ·obtain ⟨h2,-,-⟩:=Value.slice.inj h1
  obtain rfl : g = g2:=by simpa using h2
  simp [World.frozen?,hh]
theorem own_cells {w : World} {base : Nat} {e : TypeId} {size g n cap : Nat} {xs : List Value} (h : w.ownsRow base e size (.slice (some ⟨g,0,none⟩) n cap) n xs) (j : Nat) (u : Value) (hj : xs[j]? = some u) : w.cell? ⟨g,j,none⟩ = some u:=by
 have h2:=h.cells (g:=g) rfl j u hj
 have h3 : (⟨g,0,none⟩ : Addr).add j = ⟨g,j,none⟩:=by
  unfold Addr.add
  split <;> simp_all
 rwa [h3] at h2
theorem steps7 {W : World} {base : Nat} {e : TypeId} {size g n cap p : Nat} {xs : List Value} (h : W.ownsRow base e size (.slice (some ⟨g,0,none⟩) n cap) n xs) (hp : p + 7 ≤ xs.length) (a0 a1 a2 a3 a4 a5 : Value) :
  ∃ x0 x1 x2 x3 x4 x5 x6,W.cell? ⟨g,p,none⟩ = some x0 ∧ (W.setCell ⟨g,p,none⟩ a0).cell? ⟨g,p + 1,none⟩ = some x1 ∧
   ((W.setCell ⟨g,p,none⟩ a0).setCell ⟨g,p + 1,none⟩ a1).cell? ⟨g,p + 2,none⟩ = some x2 ∧
   (((W.setCell ⟨g,p,none⟩ a0).setCell ⟨g,p + 1,none⟩ a1).setCell ⟨g,p + 2,none⟩ a2).cell? ⟨g,p + 3,none⟩ = some x3 ∧
   ((((W.setCell ⟨g,p,none⟩ a0).setCell ⟨g,p + 1,none⟩ a1).setCell ⟨g,p + 2,none⟩ a2).setCell ⟨g,p + 3,none⟩ a3).cell? ⟨g,p + 4,none⟩ = some x4 ∧
   (((((W.setCell ⟨g,p,none⟩ a0).setCell ⟨g,p + 1,none⟩ a1).setCell ⟨g,p + 2,none⟩ a2).setCell ⟨g,p + 3,none⟩ a3).setCell ⟨g,p + 4,none⟩ a4).cell? ⟨g,p + 5,none⟩ = some x5 ∧
   ((((((W.setCell ⟨g,p,none⟩ a0).setCell ⟨g,p + 1,none⟩ a1).setCell ⟨g,p + 2,none⟩ a2).setCell ⟨g,p + 3,none⟩ a3).setCell ⟨g,p + 4,none⟩ a4).setCell ⟨g,p + 5,none⟩ a5).cell? ⟨g,p + 6,none⟩ = some x6:=by
 have h1:=owns_set h p a0
 have h2:=owns_set h1 (p + 1) a1
 have h3:=owns_set h2 (p + 2) a2
 have h4:=owns_set h3 (p + 3) a3
 have h5:=owns_set h4 (p + 4) a4
 have h6:=owns_set h5 (p + 5) a5
 exact ⟨_,_,_,_,_,_,_,own_cells h p _ (List.getElem?_eq_getElem (by omega)),own_cells h1 (p + 1) _ (List.getElem?_eq_getElem (by simp only [List.length_set];omega)),own_cells h2 (p + 2) _ (List.getElem?_eq_getElem (by simp only [List.length_set];omega)),own_cells h3 (p + 3) _ (List.getElem?_eq_getElem (by simp only [List.length_set];omega)),own_cells h4 (p + 4) _ (List.getElem?_eq_getElem (by simp only [List.length_set];omega)),own_cells h5 (p + 5) _ (List.getElem?_eq_getElem (by simp only [List.length_set];omega)),own_cells h6 (p + 6) _ (List.getElem?_eq_getElem (by simp only [List.length_set];omega))⟩
theorem flat7_len : ∀ {rs : List (List Value)} {k : Nat},(∀ x ∈ rs,x.length = 7) → k < rs.length → k * 7 + 7 ≤ rs.flatten.length
 | [],k,_,h=>by simp at h
 | x :: rs,0,hl,_=>by rw [List.flatten_cons,List.length_append,hl x (by simp)];omega
 | x :: rs,k + 1,hl,h=>by
  have:=flat7_len (rs:=rs) (k:=k) (fun y hy=>hl y (List.mem_cons_of_mem _ hy)) (by simpa using h)
  rw [List.flatten_cons,List.length_append,hl x (by simp)]
  omega
theorem half_put {w wr W2 : World} {base b n cap k : Nat} {ms : List Cf.Mb} {rs : List (List Value)} {m : Cf.Mb} {cv hv : Value} (h : Half w wr base ms k rs) (hm : ms[k]? = some m) (hb : Below wr.heap.size wr W2) (hw : base ≤ wr.heap.size) (ho : OMb W2 wr.heap.size (mL m cv hv) m)
  (hO : W2.ownsRow base 42 7 (.slice (some ⟨b,0,none⟩) n cap) n rs.flatten) :
  Half w (((((((W2.setCell ⟨b,k * 7,none⟩ (.int .i64 m.ac)).setCell ⟨b,k * 7 + 1,none⟩ (.int .i64 m.nm)).setCell ⟨b,k * 7 + 2,none⟩ (.int .i64 m.ds)).setCell ⟨b,k * 7 + 3,none⟩ (.int .i64 m.st)).setCell ⟨b,k * 7 + 4,none⟩ (.int .i64 m.lc)).setCell ⟨b,k * 7 + 5,none⟩ cv).setCell ⟨b,k * 7 + 6,none⟩ hv) base ms (k + 1) (rs.set k (mL m cv hv)) ∧
   (((((((W2.setCell ⟨b,k * 7,none⟩ (.int .i64 m.ac)).setCell ⟨b,k * 7 + 1,none⟩ (.int .i64 m.nm)).setCell ⟨b,k * 7 + 2,none⟩ (.int .i64 m.ds)).setCell ⟨b,k * 7 + 3,none⟩ (.int .i64 m.st)).setCell ⟨b,k * 7 + 4,none⟩ (.int .i64 m.lc)).setCell ⟨b,k * 7 + 5,none⟩ cv).setCell ⟨b,k * 7 + 6,none⟩ hv).ownsRow base 42 7 (.slice (some ⟨b,0,none⟩) n cap) n (rs.set k (mL m cv hv)).flatten:=by
 have hlt : k < rs.length:=by rw [h.1];exact (List.getElem?_eq_some_iff.1 hm).1
 have hg : W2.grownBy (((((((W2.setCell ⟨b,k * 7,none⟩ (.int .i64 m.ac)).setCell ⟨b,k * 7 + 1,none⟩ (.int .i64 m.nm)).setCell ⟨b,k * 7 + 2,none⟩ (.int .i64 m.ds)).setCell ⟨b,k * 7 + 3,none⟩ (.int .i64 m.st)).setCell ⟨b,k * 7 + 4,none⟩ (.int .i64 m.lc)).setCell ⟨b,k * 7 + 5,none⟩ cv).setCell ⟨b,k * 7 + 6,none⟩ hv) (some b) :=
  L3.grown_trans (L3.grown_trans (L3.grown_trans (L3.grown_trans (L3.grown_trans (L3.grown_trans (L3.grownBy_setCell' _ _ _) (L3.grownBy_setCell' _ _ _)) (L3.grownBy_setCell' _ _ _)) (L3.grownBy_setCell' _ _ _)) (L3.grownBy_setCell' _ _ _)) (L3.grownBy_setCell' _ _ _)) (L3.grownBy_setCell' _ _ _)
 refine ⟨h.step hm ((ho.mono hw).apart hO (by simpa [Value.ownBlock] using hg)) fun x y hx=>(hx.below hb (Nat.le_refl _)).apart hO (by simpa [Value.ownBlock] using hg),?_⟩
 have h7:=owns_set (owns_set (owns_set (owns_set (owns_set (owns_set (owns_set hO (k * 7) (.int .i64 m.ac)) (k * 7 + 1) (.int .i64 m.nm)) (k * 7 + 2) (.int .i64 m.ds)) (k * 7 + 3) (.int .i64 m.st)) (k * 7 + 4) (.int .i64 m.lc)) (k * 7 + 5) cv) (k * 7 + 6) hv
 rw [set7 h.lens hlt] at h7
 exact h7
def cmFn : Value:=.func (.func 78) #[] #[]
theorem flat7 {w0 w : World} {base k : Nat} {ms : List Cf.Mb} : ∀ {rs : List (List Value)} {j : Nat} {r : List Value},(∀ x ∈ rs,x.length = 7) → rs[j]? = some r → ∀ i,i < 7 → rs.flatten[j * 7 + i]? = r[i]?
 | [],_,_,_,h,_,_=>by simp at h
 | x :: rs,0,r,hl,h,i,hi=>by
  simp at h
  subst h
  rw [List.flatten_cons,List.getElem?_append_left (by have:=hl x (by simp);omega)]
  simp
 | x :: rs,j + 1,r,hl,h,i,hi=>by
  have hx:=hl x (by simp)
  rw [List.flatten_cons,List.getElem?_append_right (by omega),hx,← flat7 (w0:=w0) (w:=w) (base:=base) (k:=k) (ms:=ms) (fun y hy=>hl y (List.mem_cons_of_mem _ hy)) (by simpa using h) i hi]
  congr 1
  omega
set_option maxHeartbeats 2000000 in
theorem cloneEach_any (ms : List Cf.Mb) (v : Value) (w : World) (h : MsR w v ms) (hn : ms.length * 88 ≤ 140737488355328) (hh : ∀ m ∈ ms,m.hs.length * 32 ≤ 140737488355328) :
  Calls Tryz.prog 77 #[v,cmFn] w fun e w'=>∃ v',e = .returned v' ∧ OMs w' w.heap.size v' ms ∧ Below w.heap.size w w':=by
 obtain ⟨rs,hC,hS⟩:=h
 have HC:=hid (mclone_any ms.length rs.flatten v w hS hn (ones_rows hC))
 have HN:=hid (fun (W : World)=>half_new (w:=W) (base:=w.heap.size) hC)
 have HH:=hid hh
 unfold ClonePost at HC
 obtain ⟨a,cap,rfl⟩:=hS.len
 unfold cmFn
 clear hC hS hh
 go_enter Tryz.func77,Tryz.ntmps77
 go_wp2_with (go_at_call 128;refine HC.out.mono ?_;rintro e w1 ⟨v1,rfl,o1,hb1⟩;obtain ⟨g0,c0,rfl⟩:=L3.own_form o1)
 go_loopw [11] (fun i wr=>∃ (k : Nat) (rs' : List (List Value)),k ≤ ms.length ∧ i = .int .i64 k ∧ Half w wr w.heap.size ms k rs' ∧ wr.ownsRow w.heap.size 42 7 (.slice g0 ms.length c0) ms.length rs'.flatten ∧ Below w.heap.size w wr) (fun i _=>ms.length - (intOf i).toNat)
 case atStart=>exact ⟨0,rs,by omega,rfl,HN.out _,o1,hb1⟩
 case round =>
  obtain ⟨k,rs',hk,rfl,hHf,hO,hbl⟩:=hrel
  have hzr:=hbl.size
  by_cases hlt : k < ms.length
  ·obtain ⟨m,hx⟩ : ∃ x,ms[k]? = some x:=⟨ms[k],List.getElem?_eq_getElem hlt⟩
   obtain ⟨r,hr⟩ : ∃ r,rs'[k]? = some r:=⟨rs'[k]'(by rw [hHf.1];exact hlt),List.getElem?_eq_getElem _⟩
   obtain ⟨-,hrd⟩:=hHf.2 k r m hr hx
   obtain ⟨-,cv,hv,rfl,hB,hHs,hcl⟩:=hrd (Nat.le_refl _)
   obtain ⟨xa,xc,rfl⟩:=hB.len
   obtain ⟨ya,yc,rfl⟩:=hHs.len
   obtain ⟨b,o,cap',hv2,-,hbb,hc⟩:=(Kit.isS_of_owns hO (by omega)).some (by omega)
   obtain ⟨rfl,-,rfl⟩:=Value.slice.inj hv2
   have ho0 : o = 0:=by
    rcases hO.2 with ⟨h1,-⟩|⟨g',cap2,cur,h1,-⟩
    ·cases h1
    ·obtain ⟨h2,-,-⟩:=Value.slice.inj h1
     have h3 : b = g' ∧ o = 0:=by simpa using h2
     exact h3.2
   subst ho0
   have hf:=fun i hi=>flat7 (w0:=w) (w:=wr) (base:=w.heap.size) (k:=k) (ms:=ms) hHf.lens hr i hi
   simp only [Nat.zero_add] at hc
   have c0:=hc (k * 7) (.int .i64 m.ac) (by have:=hf 0 (by omega);simpa using this)
   have c1:=hc (k * 7 + 1) (.int .i64 m.nm) (by have:=hf 1 (by omega);simpa using this)
   have c2:=hc (k * 7 + 2) (.int .i64 m.ds) (by have:=hf 2 (by omega);simpa using this)
   have c3:=hc (k * 7 + 3) (.int .i64 m.st) (by have:=hf 3 (by omega);simpa using this)
   have c4:=hc (k * 7 + 4) (.int .i64 m.lc) (by have:=hf 4 (by omega);simpa using this)
   have c5:=hc (k * 7 + 5) _ (by have:=hf 5 (by omega);simpa using this)
   have c6:=hc (k * 7 + 6) _ (by have:=hf 6 (by omega);simpa using this)
   have hki : (k : Int) < (ms.length : Int):=by omega
   have HCm:=hid (fun W (q : Below w.heap.size w W)=>cloneMember_any m _ _ W ((hB.below q (Nat.le_refl _)).mono q.size) (hHs.below q (Nat.le_refl _)) hcl (HH.out m (List.mem_of_getElem? hx)))
   unfold mbV at HCm
   have HX:=hid hx
   have HHf:=hid hHf
   have HO:=hid hO
   have HL:=hid (flat7_len hHf.lens (by rw [hHf.1];exact hlt))
   have hgb : w.heap.size ≤ b:=Kit.own_base hO b (by simp [Value.ownBlock])
   clear hr hrd hv2 hf hc hB hHs hx hHf hO
   go_wp2_with (go_at_call 78;refine (HCm.out _ BLw).mono ?_;rintro e W2 ⟨cv2,hv2,rfl,hom,hb2⟩;have hsz2:=hb2.size;simp only [World.size_alloc] at hsz2;have Bw : Below wr.heap.size wr W2:=belows ((Below.refl _ _).alloc (Nat.le_refl _) _) hb2 (by simp only [World.size_alloc];omega);have HO2:=hid (Kit.owns_below HO.out Bw (Nat.le_refl _));have HOm:=hid hom;have HBw:=hid Bw;have fz : ∀ j,W2.frozen? ⟨b,j,none⟩ = false:=own_frozen HO2.out;have hvs:=HOm.out;obtain ⟨cv3,hv3,he3,oc,oh,-⟩:=hvs;obtain ⟨rfl,rfl⟩ : cv2 = cv3 ∧ hv2 = hv3:=(by simpa [mL] using he3);obtain ⟨g3,c3',rfl⟩:=L3.own_form oc;obtain ⟨g4,c4',rfl⟩:=L3.own_form oh;obtain ⟨x0,x1,x2,x3,x4,x5,x6,e0,e1,e2,e3,e4,e5,e6⟩:=steps7 HO2.out HL.out (.int .i64 m.ac) (.int .i64 m.nm) (.int .i64 m.ds) (.int .i64 m.st) (.int .i64 m.lc) (.slice g3 m.code.length c3');clear hb2 hom Bw he3 oc oh)
   obtain ⟨hH2,hO2⟩:=half_put HHf.out HX.out HBw.out hbl.size (HOm.out.mono (by simp)) HO2.out
   have hbw : Below w.heap.size w W2:=belows hbl HBw.out hbl.size
   exact ⟨⟨k + 1,_,by omega,by simp,hH2,hO2,BLw⟩,by simp [intOf];omega⟩
  ·obtain rfl : k = ms.length:=by omega
   go_wp2
   go_ret
   exact ⟨_,rfl,⟨rs',half_all hHf,hO⟩,hbl⟩
end Go.Proofs.YtnojgiflgmnjlaaGreatDoor
namespace Go.Proofs.YtnojgiflgmnjlaaGreatDoor
open Go.RowKit
def Cf.Szc (c : Cf.Cl) : Prop:=c.pool.length * 48 ≤ 140737488355328 ∧ c.fs.length * 88 ≤ 140737488355328 ∧ c.ms.length * 88 ≤ 140737488355328 ∧ (∀ m ∈ c.fs,m.hs.length * 32 ≤ 140737488355328) ∧ ∀ m ∈ c.ms,m.hs.length * 32 ≤ 140737488355328
theorem OMs.form {w : World} {base : Nat} {v : Value} {ms : List Cf.Mb} (h : OMs w base v ms) : ∃ a cap,v = .slice a ms.length cap:=by
 obtain ⟨rs,-,h2⟩:=h
 exact L3.own_form h2
def ApV (vs : Array Value) : Prop:=∀ k,(vs.getD 6 (.bool false)).ownBlock = some k → (vs.getD 7 (.bool false)).ownBlock ≠ some k
theorem OMs.lt {w : World} {base : Nat} {v : Value} {ms : List Cf.Mb} (h : OMs w base v ms) : ∀ k,v.ownBlock = some k → k < w.heap.size:=by
 obtain ⟨rs,-,h2⟩:=h
 exact Kit.own_lt h2
theorem OMs.ge {w : World} {base : Nat} {v : Value} {ms : List Cf.Mb} (h : OMs w base v ms) : ∀ k,v.ownBlock = some k → base ≤ k:=by
 obtain ⟨rs,-,h2⟩:=h
 exact Kit.own_base h2
set_option maxHeartbeats 2000000 in
theorem clone_any (c : Cf.Cl) (vs : Array Value) (w : World) (h : ClR w vs c) (hs : Cf.Szc c) :
  Calls Tryz.prog 33 #[.agg vs] w fun e w'=>∃ vs',e = .returned (.agg vs') ∧ OCl w' w.heap.size vs' c ∧ ApV vs' ∧ Below w.heap.size w w':=by
 obtain ⟨pv,fv,mv,rfl,hP,hF,hM⟩:=h
 have HP:=hid (fun W (k : Below w.heap.size w W)=>L3.cclone_any c.pool pv W (hP.below k (Nat.le_refl _)) hs.1)
 have HF:=hid (fun W (k : Below w.heap.size w W)=>cloneEach_any c.fs fv W (hF.below k (Nat.le_refl _)) hs.2.1 hs.2.2.2.1)
 have HM:=hid (fun W (k : Below w.heap.size w W)=>cloneEach_any c.ms mv W (hM.below k (Nat.le_refl _)) hs.2.2.1 hs.2.2.2.2)
 unfold L3.ClonePost at HP
 unfold cmFn at HF HM
 obtain ⟨xa,xc,rfl⟩:=hP.len
 obtain ⟨_,-,hf2⟩:=hF
 obtain ⟨ya,yc,rfl⟩:=hf2.len
 obtain ⟨_,-,hm2⟩:=hM
 obtain ⟨za,zc,rfl⟩:=hm2.len
 obtain ⟨mi,ma,pool,ac,th,su,fs,ms⟩:=c
 dsimp only at HP HF HM hs ⊢
 clear hP hf2 hm2 hs
 go_enter Tryz.func33,Tryz.ntmps33
 go_wp2_with (first
  | (go_at_call 77;have _g:=O2;have Bx3 : Below w.heap.size w (w2.setCell ⟨w.heap.size,6,none⟩ (.slice fa fs.length fc)):=BLw;refine (HM.out _ Bx3).mono ?_;rintro e w3 ⟨v3,rfl,o3,hb3⟩;obtain ⟨ga,gc,rfl⟩:=OMs.form o3;have B3:=belows Bx3 hb3 Bx3.size;have hz3:=hb3.size;simp only [World.size_setCell] at hz3 o3;have O3:=hid o3;have O1c:=hid (Kit.owns_below (Kit.owns_grown O1b.out (L3.set_grown _ w.heap.size 6 _) (by omega)) hb3 (Nat.le_refl _));have O2c:=hid ((O2.out.grown (L3.set_grown _ w.heap.size 6 _) (by omega)).below hb3 (Nat.le_refl _));have bM:=(BM2.out.set 6 (.slice fa fs.length fc)).below hb3 (by simp only [World.size_setCell];omega);have bR:=(BR2.out.grown (L3.set_grown w2 w.heap.size 6 (.slice fa fs.length fc)) (fun e=>by (have:=Option.some.inj e;omega))).below hb3 (by simp only [World.size_setCell];omega);clear m0 m1 m2 m3 m4 m5 m6 m7 g6 g7;have m0:=bM.cell 0;have m1:=bM.cell 1;have m2:=bM.cell 2;have m3:=bM.cell 3;have m4:=bM.cell 4;have m5:=bM.cell 5;have m6:=bM.cell 6;have m7:=bM.cell 7;have g7:=bM.frozen 7;simp at m0 m1 m2 m3 m4 m5 m6 m7;obtain ⟨r0,r1,r2,r3,r4,r5,r6,r7⟩:=bR.cells8;have f0:=bR.frozen 0;have f1:=bR.frozen 1;have f2:=bR.frozen 2;have f3:=bR.frozen 3;have f4:=bR.frozen 4;have f5:=bR.frozen 5;have f6:=bR.frozen 6;have f7:=bR.frozen 7;clear hb3 bM bR o3)
  | (go_at_call 77;have Bx : Below w.heap.size w (w1.setCell ⟨w.heap.size,2,none⟩ (.slice pa pool.length pc)):=BLw;refine (HF.out _ Bx).mono ?_;rintro e w2 ⟨v2,rfl,o2,hb2⟩;obtain ⟨fa,fc,rfl⟩:=OMs.form o2;have B2:=belows Bx hb2 Bx.size;have hz2:=hb2.size;simp only [World.size_setCell] at hz2 o2;have O2:=hid o2;have O1b:=hid (Kit.owns_below (Kit.owns_grown O1.out (L3.set_grown _ w.heap.size 2 _) (by omega)) hb2 (Nat.le_refl _));have bM:=(BM.out.set 2 (.slice pa pool.length pc)).below hb2 (by simp only [World.size_setCell];omega);have bR:=(BR.out.grown (L3.set_grown w1 w.heap.size 2 (.slice pa pool.length pc)) (fun e=>by (have:=Option.some.inj e;omega))).below hb2 (by simp only [World.size_setCell];omega);clear m0 m1 m2 m3 m4 m5 m6 m7 g2 g6 g7;have m0:=bM.cell 0;have m1:=bM.cell 1;have m2:=bM.cell 2;have m3:=bM.cell 3;have m4:=bM.cell 4;have m5:=bM.cell 5;have m6:=bM.cell 6;have m7:=bM.cell 7;have g6:=bM.frozen 6;have g7:=bM.frozen 7;simp at m0 m1 m2 m3 m4 m5 m6 m7;have BM2:=hid bM;have BR2:=hid bR;clear hb2 bM bR o2)
  | (go_at_call 76;refine (HP.out _ BLw).mono ?_;rintro e w1 ⟨v1,rfl,o1,hb1⟩;obtain ⟨pa,pc,rfl⟩:=L3.own_form o1;obtain ⟨bM,bR,hz1,B1⟩:=boxes2 hb1;unfold L3.OwnC at o1;simp only [World.size_alloc] at o1;have O1:=hid o1;have BM:=hid bM;have BR:=hid bR;have m0:=bM.cell 0;have m1:=bM.cell 1;have m2:=bM.cell 2;have m3:=bM.cell 3;have m4:=bM.cell 4;have m5:=bM.cell 5;have m6:=bM.cell 6;have m7:=bM.cell 7;have g2:=bM.frozen 2;have g6:=bM.frozen 6;have g7:=bM.frozen 7;simp at m0 m1 m2 m3 m4 m5 m6 m7;clear hb1 bM bR o1))
 refine bodyPost_ret (v:=.agg #[.int .i64 mi,.int .i64 ma,.slice pa pool.length pc,.int .i64 ac,.int .i64 th,.int .i64 su,.slice fa fs.length fc,.slice ga ms.length gc]) (by simp [results,Tryz.results33,go_sem,r0,r1,r2,r3,r4,r5,r6,r7]) rfl ⟨_,rfl,⟨_,_,_,rfl,?_,?_,?_⟩,fun k hk e9=>by (have q1:=OMs.lt O2.out k hk;have q2:=OMs.ge O3.out k e9;omega),BLw⟩
 ·have hlt2 : w.heap.size < w.heap.size + 1 + 1:=by omega
  have hlt : w.heap.size + 1 < w.heap.size + 1 + 1:=by omega
  refine L3.own_mono (base:=w.heap.size + 1 + 1) ?_ (by omega)
  (iterate 8 (refine Kit.owns_grown ?_ (L3.set_grown _ _ _ _) hlt))
  exact Kit.owns_grown O1c.out (L3.set_grown _ _ _ _) hlt2
 ·have hlt2 : w.heap.size < w1.heap.size:=by omega
  have hlt : w.heap.size + 1 < w1.heap.size:=by omega
  refine OMs.mono (base:=w1.heap.size) ?_ (by omega)
  (iterate 8 (refine OMs.grown ?_ (L3.set_grown _ _ _ _) hlt))
  exact O2c.out.grown (L3.set_grown _ _ _ _) hlt2
 ·have hlt2 : w.heap.size < w2.heap.size:=by omega
  have hlt : w.heap.size + 1 < w2.heap.size:=by omega
  refine OMs.mono (base:=w2.heap.size) ?_ (by omega)
  (iterate 8 (refine OMs.grown ?_ (L3.set_grown _ _ _ _) hlt))
  exact O3.out.grown (L3.set_grown _ _ _ _) hlt2
end Go.Proofs.YtnojgiflgmnjlaaGreatDoor
namespace Go.Proofs.YtnojgiflgmnjlaaGreatDoor
open Go.RowKit
theorem isS_low {size lo pb : Nat} {w W X : World} {v : Value} {n : Nat} {xs : List Value} (h : Kit.IsS size w v n xs) (hl : w.heap.size = lo) (hb : Below w.heap.size w W) (k : Kx lo pb W X) : Kit.IsS size X v n xs:=by
 obtain ⟨h1,h2,h3⟩:=h
 refine ⟨h1,h2,?_⟩
 rcases h3 with h3|⟨b,o,cap,hv,hc,hlt,hx⟩
 ·exact .inl h3
 ·refine .inr ⟨b,o,cap,hv,hc,Nat.lt_of_lt_of_le hlt (Nat.le_trans hb.size k.1),fun i u hu=>?_⟩
  have e : X.heap[b]? = w.heap[b]?:=(k.2 b (Nat.lt_of_lt_of_le hlt hb.size) (.inl (by omega))).trans (hb.block b hlt)
  exact (World.cell?_of_block e).trans (hx i u hu)
theorem Bd.start {w W : World} {pb cap : Nat} {a : Option Addr} {l : List L3.Cp.C} (hS : Kit.IsS 5 w (.slice a l.length cap) l.length (l.flatMap L3.cL)) (hz : PoolSz l) (hb : Below w.heap.size w W) (hx : L3.BX W pb #[.slice a l.length cap,.int .i64 0] 95) (hp : w.heap.size ≤ pb) : Bd W w.heap.size pb l 0 :=
 ⟨⟨_,hx,fun _ k=>isS_low hS rfl hb k⟩,hz,hp⟩
theorem Bd.set {w : World} {lo pb : Nat} {l : List L3.Cp.C} {er : Int} (h : Bd w lo pb l er) {r : Nat} (h1 : lo ≤ r) (h2 : r < pb) (j : Nat) (u : Value) : Bd (w.setCell ⟨r,j,none⟩ u) lo pb l er:=by
 obtain ⟨v,hx,hs⟩:=h.box
 exact ⟨⟨v,L3.BX.grown (show L3.BX w pb _ _ from hx) (L3.set_grown w r j u) (fun e=>by have:=Option.some.inj e;omega),fun X k=>hs X (((Kx.refl _ _ _).set ⟨h1,by omega⟩ u).trans k)⟩,h.sz,h.lo⟩
theorem BX.al {w : World} {B : Nat} {cs : Array Value} {T : TypeId} (h : L3.BX w B cs T) (o : Obj) : L3.BX (w.alloc o) B cs T:=h.below (n:=w.heap.size) ((Below.refl _ _).alloc (Nat.le_refl _) _) h.sz
theorem put7 {W : World} {b : Nat} {cs : Array Value} {T : TypeId} (h : L3.BX W b cs T) (hs : cs.size = 7) (a0 a1 a2 a3 a4 a5 a6 : Value) :
  L3.BX (((((((W.setCell ⟨b,0,none⟩ a0).setCell ⟨b,1,none⟩ a1).setCell ⟨b,2,none⟩ a2).setCell ⟨b,3,none⟩ a3).setCell ⟨b,4,none⟩ a4).setCell ⟨b,5,none⟩ a5).setCell ⟨b,6,none⟩ a6) b #[a0,a1,a2,a3,a4,a5,a6] T:=by
 obtain ⟨L⟩:=cs
 match L,hs with
 | [_,_,_,_,_,_,_],_ =>
  have h9:=(((((((h.set 0 a0).set 1 a1).set 2 a2).set 3 a3).set 4 a4).set 5 a5).set 6 a6)
  simp only [List.setIfInBounds_toArray,List.set_cons_zero,List.set_cons_succ] at h9
  exact h9
theorem put8 {W : World} {b : Nat} {cs : Array Value} {T : TypeId} (h : L3.BX W b cs T) (hs : cs.size = 8) (a0 a1 a2 a3 a4 a5 a6 a7 : Value) :
  L3.BX ((((((((W.setCell ⟨b,0,none⟩ a0).setCell ⟨b,1,none⟩ a1).setCell ⟨b,2,none⟩ a2).setCell ⟨b,3,none⟩ a3).setCell ⟨b,4,none⟩ a4).setCell ⟨b,5,none⟩ a5).setCell ⟨b,6,none⟩ a6).setCell ⟨b,7,none⟩ a7) b #[a0,a1,a2,a3,a4,a5,a6,a7] T:=by
 obtain ⟨L⟩:=cs
 match L,hs with
 | [_,_,_,_,_,_,_,_],_ =>
  have h9:=((((((((h.set 0 a0).set 1 a1).set 2 a2).set 3 a3).set 4 a4).set 5 a5).set 6 a6).set 7 a7)
  simp only [List.setIfInBounds_toArray,List.set_cons_zero,List.set_cons_succ] at h9
  exact h9
theorem grown7 (W : World) (b : Nat) (a0 a1 a2 a3 a4 a5 a6 : Value) :
  W.grownBy (((((((W.setCell ⟨b,0,none⟩ a0).setCell ⟨b,1,none⟩ a1).setCell ⟨b,2,none⟩ a2).setCell ⟨b,3,none⟩ a3).setCell ⟨b,4,none⟩ a4).setCell ⟨b,5,none⟩ a5).setCell ⟨b,6,none⟩ a6) (some b) :=
 L3.grown_trans (L3.grown_trans (L3.grown_trans (L3.grown_trans (L3.grown_trans (L3.grown_trans (L3.set_grown _ _ _ _) (L3.set_grown _ _ _ _)) (L3.set_grown _ _ _ _)) (L3.set_grown _ _ _ _)) (L3.set_grown _ _ _ _)) (L3.set_grown _ _ _ _)) (L3.set_grown _ _ _ _)
theorem grown8 (W : World) (b : Nat) (a0 a1 a2 a3 a4 a5 a6 a7 : Value) :
  W.grownBy ((((((((W.setCell ⟨b,0,none⟩ a0).setCell ⟨b,1,none⟩ a1).setCell ⟨b,2,none⟩ a2).setCell ⟨b,3,none⟩ a3).setCell ⟨b,4,none⟩ a4).setCell ⟨b,5,none⟩ a5).setCell ⟨b,6,none⟩ a6).setCell ⟨b,7,none⟩ a7) (some b) :=
 L3.grown_trans (grown7 W b a0 a1 a2 a3 a4 a5 a6) (L3.set_grown _ _ _ _)
theorem Bd.grown {w W : World} {lo pb r : Nat} {l : List L3.Cp.C} {er : Int} (h : Bd w lo pb l er) (hg : w.grownBy W (some r)) (h1 : lo ≤ r) (h2 : r < pb) : Bd W lo pb l er:=by
 obtain ⟨v,hx,hs⟩:=h.box
 exact ⟨⟨v,L3.BX.grown (show L3.BX w pb _ _ from hx) hg (fun e=>by have:=Option.some.inj e;omega),fun X k=>hs X ((Kx.grown hg h1 (by omega)).trans k)⟩,h.sz,h.lo⟩
theorem five {w : World} {c0 c1 c2 c3 c4 : Array Value} {T0 T1 T2 T3 T4 : TypeId} {W : World} (h : W = ((((w.alloc (.cells c0 T0)).alloc (.cells c1 T1)).alloc (.cells c2 T2)).alloc (.cells c3 T3)).alloc (.cells c4 T4)) :
  L3.BX W w.heap.size c0 T0 ∧ L3.BX W (w.heap.size + 1) c1 T1 ∧ L3.BX W (w.heap.size + 1 + 1) c2 T2 ∧ L3.BX W (w.heap.size + 1 + 1 + 1) c3 T3 ∧ L3.BX W (w.heap.size + 1 + 1 + 1 + 1) c4 T4 ∧ W.heap.size = w.heap.size + 5 ∧ Below w.heap.size w W:=by
 subst h
 have b0:=BX.al (BX.al (BX.al (BX.al (L3.BX.new w c0 T0) (.cells c1 T1)) (.cells c2 T2)) (.cells c3 T3)) (.cells c4 T4)
 have b1:=BX.al (BX.al (BX.al (L3.BX.new (w.alloc (.cells c0 T0)) c1 T1) (.cells c2 T2)) (.cells c3 T3)) (.cells c4 T4)
 have b2:=BX.al (BX.al (L3.BX.new ((w.alloc (.cells c0 T0)).alloc (.cells c1 T1)) c2 T2) (.cells c3 T3)) (.cells c4 T4)
 have b3:=BX.al (L3.BX.new (((w.alloc (.cells c0 T0)).alloc (.cells c1 T1)).alloc (.cells c2 T2)) c3 T3) (.cells c4 T4)
 have b4:=L3.BX.new ((((w.alloc (.cells c0 T0)).alloc (.cells c1 T1)).alloc (.cells c2 T2)).alloc (.cells c3 T3)) c4 T4
 simp only [World.size_alloc] at b1 b2 b3 b4
 exact ⟨b0,b1,b2,b3,b4,by simp only [World.size_alloc],BLw⟩
end Go.Proofs.YtnojgiflgmnjlaaGreatDoor
namespace Go.Proofs.YtnojgiflgmnjlaaGreatDoor
open Go Go.RowKit
theorem Cf.mb_run {s t1 t2 t3 : List UInt8 × Int} {x1 x2 x3 : Int} (h1 : Cf.Run Cf.u2 s x1 t1) (h2 : Cf.Run Cf.u2 t1 x2 t2) (h3 : Cf.Run Cf.u2 t2 x3 t3) : Cf.Run Cf.mbP s ⟨x1,x2,x3,0,0,[],[]⟩ t3:=by
 unfold Cf.mbP
 refine Cf.Run.bnd h1 ?_
 refine Cf.Run.bnd h2 ?_
 refine Cf.Run.bnd h3 ?_
 exact Cf.Run.ret _ _
theorem Cf.none_run {s t u : List UInt8 × Int} {x : Int} (h1 : Cf.Run Cf.u2 s x t) (h2 : Cf.Run (Cf.want (x == 0) 43) t () u) : Cf.Run Cf.noneP s () u:=by
 unfold Cf.noneP
 refine Cf.Run.bnd h1 ?_
 exact h2
theorem Cf.fd_run {s t1 t2 t3 t4 t5 : List UInt8 × Int} {x1 x2 x3 x4 : Int} (h1 : Cf.Run Cf.u2 s x1 t1) (h2 : Cf.Run Cf.u2 t1 x2 t2) (h3 : Cf.Run Cf.u2 t2 x3 t3) (h4 : Cf.Run Cf.u2 t3 x4 t4) (h5 : Cf.Run (Cf.want (x4 == 0) 43) t4 () t5) : Cf.Run Cf.fdP s ⟨x1,x2,x3,0,0,[],[]⟩ t5:=by
 unfold Cf.fdP
 refine Cf.Run.bnd (Cf.mb_run h1 h2 h3) ?_
 refine Cf.Run.bnd (Cf.none_run h4 h5) ?_
 exact Cf.Run.ret _ _
theorem Cf.numP_u2 {s t : List UInt8 × Int} {x : Int} (h : Cf.Run (Cf.numP 2) s x t) : Cf.Run Cf.u2 s x t:=by rw [← Cf.numP_2];exact h
theorem Cf.numP_u4 {s t : List UInt8 × Int} {x : Int} (h : Cf.Run (Cf.numP 4) s x t) : Cf.Run Cf.u4 s x t:=by rw [← Cf.numP_4];exact h
theorem num2_any (pb : Nat) (bs : List UInt8) (s : List UInt8 × Int) (w : World) (hr : RdD w pb bs s) :
  Calls Tryz.prog 37 #[.pointer (some ⟨pb,0,none⟩),.int .i64 2] w fun e w'=>∃ x t,e = .returned (.int .i64 x) ∧ (0 ≤ x ∧ x < 65536) ∧ Cf.Run Cf.u2 s x t ∧ w.grownBy w' (some pb) ∧ RdD w' pb bs t :=
 (num_any pb 2 bs s w (.inl rfl) hr).mono fun e w' ⟨x,t,h1,h2,_,h4,h5,h6,h7⟩=>⟨x,t,h1,⟨h2,h4 rfl⟩,Cf.numP_u2 h5,h6,h7⟩
theorem num4_any (pb : Nat) (bs : List UInt8) (s : List UInt8 × Int) (w : World) (hr : RdD w pb bs s) :
  Calls Tryz.prog 37 #[.pointer (some ⟨pb,0,none⟩),.int .i64 4] w fun e w'=>∃ x t,e = .returned (.int .i64 x) ∧ (0 ≤ x ∧ x < 4294967296) ∧ Cf.Run Cf.u4 s x t ∧ w.grownBy w' (some pb) ∧ RdD w' pb bs t :=
 (num_any pb 4 bs s w (.inr rfl) hr).mono fun e w' ⟨x,t,h1,h2,h3,_,h5,h6,h7⟩=>⟨x,t,h1,⟨h2,h3⟩,Cf.numP_u4 h5,h6,h7⟩
theorem failR_any (pb : Nat) (bs : List UInt8) (s : List UInt8 × Int) (x : Bool) (er : Int) (he : er ≠ 0) (w : World) (hr : RdD w pb bs s) :
  Calls Tryz.prog 36 #[.pointer (some ⟨pb,0,none⟩),.bool x,.int .i64 er] w fun e w'=>e = .returned (.tuple #[]) ∧ ∃ t,Cf.Run (Cf.want (!x) er) s () t ∧ w.grownBy w' (some pb) ∧ RdD w' pb bs t :=
 (fail_any pb bs s x er w hr).mono fun e w' ⟨h1,h2,h3⟩=>⟨h1,_,Cf.Run.want he rfl,h2,h3⟩
theorem RdD.al {w : World} {pb : Nat} {bs : List UInt8} {s : List UInt8 × Int} (h : RdD w pb bs s) (o : Obj) : RdD (w.alloc o) pb bs s:=h.below (n:=w.heap.size) ((Below.refl _ _).alloc (Nat.le_refl _) _) h.sz
theorem grown_alloc {w w' : World} {r : Nat} (h : w.grownBy w' (some r)) (o : Obj) : w.grownBy (w'.alloc o) (some r):=L3.grown_trans h (L3.grown_of_below ((Below.refl _ _).alloc (Nat.le_refl _) o) _)
theorem RdD.off {w w' : World} {pb r : Nat} {bs : List UInt8} {s : List UInt8 × Int} (h : RdD w pb bs s) (hg : w.grownBy w' (some r)) (hr : pb < r) : RdD w' pb bs s:=by
 have hs:=h.sz
 obtain ⟨v,k,h1,h2,h3⟩:=h
 exact ⟨v,k,h1.grown hg (fun e=>by (have:=Option.some.inj e;omega)),h2.same fun b o hl=>World.cell?_of_block (hg.block b (by omega) (fun e=>by (have:=Option.some.inj e;omega))),h3⟩
theorem grown_off {w w1 w2 : World} {pb r : Nat} (h : w.grownBy w1 (some pb)) (hg : w1.grownBy w2 (some r)) (hr : w.heap.size ≤ r) : w.grownBy w2 (some pb) :=
 ⟨hg.os.trans h.os,hg.tape.trans h.tape,hg.output.trans h.output,Nat.le_trans h.size hg.size,fun i hi hne=>(hg.block i (Nat.lt_of_lt_of_le hi h.size) (fun e=>by have:=Option.some.inj e;omega)).trans (h.block i hi hne)⟩
set_option maxHeartbeats 1000000 in
theorem dfield_any (pb : Nat) (bs : List UInt8) (s : List UInt8 × Int) (w : World) (hr : RdD w pb bs s) :
  Calls Tryz.prog 40 #[.pointer (some ⟨pb,0,none⟩)] w fun e w'=>∃ m t,e = .returned (mbV0 m) ∧ (m.st = 0 ∧ m.lc = 0 ∧ m.code = [] ∧ m.hs = []) ∧ Cf.Run Cf.fdP s m t ∧ w.grownBy w' (some pb) ∧ RdD w' pb bs t:=by
 have HN:=hid (fun s W (k : RdD W pb bs s)=>num2_any pb bs s W k)
 have HF:=hid (fun s x W (k : RdD W pb bs s)=>failR_any pb bs s x 43 (by decide) W k)
 have hzp:=hr.sz
 go_enter Tryz.func40,Tryz.ntmps40
 go_wp2_with fail
 obtain ⟨W0,hW0⟩ : ∃ W0,W0 = w.alloc (.cells #[.int .i64 0,.int .i64 0,.int .i64 0,.int .i64 0,.int .i64 0,.slice none 0 0,.slice none 0 0] 42):=⟨_,rfl⟩
 rw [← hW0]
 have HR0:=hid (show RdD W0 pb bs s by rw [hW0];exact hr.al _)
 have HG0:=hid (show w.grownBy W0 (some pb) by rw [hW0];exact grown_alloc (grown_refl' _ _) _)
 have HX0:=hid (show L3.BX W0 w.heap.size #[.int .i64 0,.int .i64 0,.int .i64 0,.int .i64 0,.int .i64 0,.slice none 0 0,.slice none 0 0] 42 by rw [hW0];exact L3.BX.new _ _ _)
 clear hW0 hr
 refine (HN.out s W0 HR0.out).mono ?_
 rintro e w1 ⟨x1,t1,rfl,hx,hrun,hg,hr⟩
 have HU1:=hid hrun
 have HR1:=hid hr
 have HG1:=hid (L3.grown_trans HG0.out hg)
 have HX1:=hid (HX0.out.grown hg (fun e=>by (have:=Option.some.inj e;omega)))
 clear hx hrun hg hr
 go_wp2_with fail
 refine (HN.out t1 w1 HR1.out).mono ?_
 rintro e w2 ⟨x2,t2,rfl,hx,hrun,hg,hr⟩
 have HU2:=hid hrun
 have HR2:=hid hr
 have HG2:=hid (L3.grown_trans HG1.out hg)
 have HX2:=hid (HX1.out.grown hg (fun e=>by (have:=Option.some.inj e;omega)))
 clear hx hrun hg hr
 go_wp2_with fail
 refine (HN.out t2 w2 HR2.out).mono ?_
 rintro e w3 ⟨x3,t3,rfl,hx,hrun,hg,hr⟩
 have HU3:=hid hrun
 have HR3:=hid hr
 have HG3:=hid (L3.grown_trans HG2.out hg)
 have HX3:=hid (HX2.out.grown hg (fun e=>by (have:=Option.some.inj e;omega)))
 clear hx hrun hg hr
 go_wp2_with fail
 obtain ⟨W3,hW3⟩ : ∃ W3,W3 = w3.alloc (.cells #[.int .i64 x1,.int .i64 x2,.int .i64 x3,.int .i64 0,.int .i64 0,.slice none 0 0,.slice none 0 0] 42):=⟨_,rfl⟩
 rw [← hW3]
 have hzx:=HX3.out.sz
 have HR3':=hid (show RdD W3 pb bs t3 by rw [hW3];exact HR3.out.al _)
 have HG3':=hid (show w.grownBy W3 (some pb) by rw [hW3];exact grown_alloc HG3.out _)
 have HX3':=hid (show L3.BX W3 w.heap.size #[.int .i64 0,.int .i64 0,.int .i64 0,.int .i64 0,.int .i64 0,.slice none 0 0,.slice none 0 0] 42 by rw [hW3];exact BX.al HX3.out _)
 have HM3:=hid (show L3.BX W3 w3.heap.size #[.int .i64 x1,.int .i64 x2,.int .i64 x3,.int .i64 0,.int .i64 0,.slice none 0 0,.slice none 0 0] 42 by rw [hW3];exact L3.BX.new _ _ _)
 have hpz:=HR3.out.sz
 clear hW3
 refine (HN.out t3 W3 HR3'.out).mono ?_
 rintro e w4 ⟨x4,t4,rfl,hx,hrun,hg,hr⟩
 have HU4:=hid hrun
 have HR4:=hid hr
 have HG4:=hid (L3.grown_trans HG3'.out hg)
 have HX4:=hid (HX3'.out.grown hg (fun e=>by (have:=Option.some.inj e;omega)))
 have HM4:=hid (HM3.out.grown hg (fun e=>by (have:=Option.some.inj e;omega)))
 clear hx hrun hg hr
 obtain ⟨x,hx⟩ : ∃ x,x = (x4 != 0):=⟨_,rfl⟩
 have HXx:=hid hx
 go_wp2_with fail
 first|rw [← hx]|skip
 clear hx
 refine (HF.out t4 x w4 HR4.out).mono ?_
 rintro e w5 ⟨rfl,t5,hrun,hg,hr⟩
 have HU5:=hid hrun
 have HR5:=hid hr
 have HG5:=hid (L3.grown_trans HG4.out hg)
 have bX:=HX4.out.grown hg (fun e=>by (have:=Option.some.inj e;omega))
 have bM:=HM4.out.grown hg (fun e=>by (have:=Option.some.inj e;omega))
 have hzx5:=bX.sz
 obtain ⟨m0,m1,m2,m3,m4,m5,m6⟩:=bM.cells7;obtain ⟨q0,q1,q2,q3,q4,q5,q6⟩:=bX.cells7;have f0:=bX.frozen 0;have f1:=bX.frozen 1;have f2:=bX.frozen 2;have f3:=bX.frozen 3;have f4:=bX.frozen 4;have f5:=bX.frozen 5;have f6:=bX.frozen 6
 have HX5:=hid bX
 clear hrun hg hr bX bM
 go_wp2
 clear m0 m1 m2 m3 m4 m5 m6 q0 q1 q2 q3 q4 q5 q6 f0 f1 f2 f3 f4 f5 f6
 have k7:=put7 HX5.out rfl (.int .i64 x1) (.int .i64 x2) (.int .i64 x3) (.int .i64 0) (.int .i64 0) (.slice none 0 0) (.slice none 0 0)
 have g7:=grown7 w5 w.heap.size (.int .i64 x1) (.int .i64 x2) (.int .i64 x3) (.int .i64 0) (.int .i64 0) (.slice none 0 0) (.slice none 0 0)
 have hrF:=RdD.off HR5.out g7 (by omega)
 have hgF:=grown_off HG5.out g7 (Nat.le_refl _)
 obtain ⟨F,hF⟩ : ∃ F,F = (((((((w5.setCell ⟨w.heap.size,0,none⟩ (.int .i64 x1)).setCell ⟨w.heap.size,1,none⟩ (.int .i64 x2)).setCell ⟨w.heap.size,2,none⟩ (.int .i64 x3)).setCell ⟨w.heap.size,3,none⟩ (.int .i64 0)).setCell ⟨w.heap.size,4,none⟩ (.int .i64 0)).setCell ⟨w.heap.size,5,none⟩ (.slice none 0 0)).setCell ⟨w.heap.size,6,none⟩ (.slice none 0 0)):=⟨_,rfl⟩
 rw [← hF] at k7 hrF hgF ⊢
 clear g7 hF
 obtain ⟨q0,q1,q2,q3,q4,q5,q6⟩:=k7.cells7
 exact bodyPost_ret (v:=.agg #[.int .i64 x1,.int .i64 x2,.int .i64 x3,.int .i64 0,.int .i64 0,.slice none 0 0,.slice none 0 0]) (by simp [results,Tryz.results40,go_sem,q0,q1,q2,q3,q4,q5,q6]) rfl ⟨⟨x1,x2,x3,0,0,[],[]⟩,t5,rfl,⟨rfl,rfl,rfl,rfl⟩,Cf.fd_run HU1.out HU2.out HU3.out HU4.out (by have h9:=HU5.out;rw [HXx.out,show (!(x4 != 0)) = (x4 == 0) by simp [bne]] at h9;exact h9),hgF,hrF⟩
end Go.Proofs.YtnojgiflgmnjlaaGreatDoor
namespace Go.Proofs.YtnojgiflgmnjlaaGreatDoor
open Go.RowKit
theorem begB_take {l : List L1.Op1.Ins} {p : Int} {k : Nat} {x : L1.Op1.Ins} (h : Cf.begB (l.take k) p = false) (hx : l[k]? = some x) (hne : x.p ≠ p) : Cf.begB (l.take (k + 1)) p = false:=by
 rw [List.take_add_one,hx]
 unfold Cf.begB at h ⊢
 rw [List.any_append,h]
 simpa using hne
theorem begB_yes {l : List L1.Op1.Ins} {p : Int} {k : Nat} {x : L1.Op1.Ins} (hx : l[k]? = some x) (he : x.p = p) : Cf.begB l p = true:=by
 unfold Cf.begB
 rw [List.any_eq_true]
 exact ⟨x,List.mem_of_getElem? hx,by simpa using he⟩
set_option maxHeartbeats 1000000 in
theorem rbegins_any (l : List L1.Op1.Ins) (p : Int) (v : Value) (w : World) (hv : Kit.IsS 4 w v l.length (L1.insCells l)) :
  Calls Tryz.prog 160 #[v,.int .i64 p] w fun e w'=>e = .returned (.bool (Cf.begB l p)) ∧ w = w':=by
 have HV:=hid hv
 obtain ⟨a,cap,rfl⟩:=hv.len
 have hlen:=hv.2.1
 obtain ⟨r,hr⟩ : ∃ r,r = Cf.begB l p:=⟨_,rfl⟩
 rw [← hr]
 have HR:=hid hr
 clear hv hr
 go_enter Tryz.func160,Tryz.ntmps160
 go_wp2
 go_loopw [5] (fun i wr=>∃ k : Nat,k ≤ l.length ∧ i = .int .i64 k ∧ Hid (Cf.begB (l.take k) p = false) ∧ w = wr) (fun i _=>l.length - (intOf i).toNat)
 case atStart=>exact ⟨0,by omega,rfl,rfl,rfl⟩
 case round =>
  obtain ⟨k,hk,rfl,htk,rfl⟩:=hrel
  by_cases hlt : k < l.length
  ·obtain ⟨x,hx⟩ : ∃ x,l[k]? = some x:=⟨l[k],List.getElem?_eq_getElem hlt⟩
   obtain ⟨b,o,cap',hv,hb,c0,-,-,-⟩:=L1.ins_at HV.out hx
   obtain ⟨rfl,-,rfl⟩:=Value.slice.inj hv
   have i1 : (k : Int) < (l.length : Int):=by omega
   by_cases hxy : x.p = p
   ·have HF : Hid (r = true):=HR.out.trans (begB_yes hx hxy)
    clear hx hv
    have hd : (x.p == p) = true:=by simpa using hxy
    clear hxy
    go_wp2
    go_ret
    exact ⟨by rw [HF.out];rfl,rfl⟩
   ·have HF:=hid (begB_take htk.out hx hxy)
    have hd : (x.p == p) = false:=by simpa using hxy
    clear hx hv hxy
    go_wp2
    go_roundw
    case rel=>exact ⟨k + 1,by omega,by go_num,HF,by first|rfl|trivial⟩
    case measure=>simp [intOf];omega
  ·obtain rfl : k = l.length:=by omega
   have HF : Hid (r = false):=by
    show r = false
    have:=htk.out
    rw [List.take_length] at this
    rw [HR.out,this]
   go_wp2
   go_ret
   exact ⟨by rw [HF.out];rfl,rfl⟩
theorem inB_take {P : List L3.Cp.C} {ms : List Cf.Mb} {n : ByteArray × ByteArray} {k : Nat} {m : Cf.Mb} (h : Cf.inB n (Cf.ahead P ms k) = false) (hm : ms[k]? = some m) (hne : ¬ ((Cf.mbO P m).1.1 = n.1 ∧ (Cf.mbO P m).1.2 = n.2)) : Cf.inB n (Cf.ahead P ms (k + 1)) = false:=by
 unfold Cf.ahead at h ⊢
 rw [List.take_add_one,hm]
 unfold Cf.inB at h ⊢
 rw [List.map_append,List.any_append,h]
 simpa using hne
theorem inB_yes {P : List L3.Cp.C} {ms : List Cf.Mb} {n : ByteArray × ByteArray} {k : Nat} {m : Cf.Mb} (hm : ms[k]? = some m) (h : (Cf.mbO P m).1.1 = n.1 ∧ (Cf.mbO P m).1.2 = n.2) : Cf.inB n (Cf.ahead P ms ms.length) = true:=by
 unfold Cf.inB Cf.ahead
 rw [List.take_length,List.any_eq_true]
 exact ⟨_,List.mem_map_of_mem (List.mem_of_getElem? hm),by simpa using h⟩
theorem str_ne {a b : ByteArray} (h : ¬ a = b) : (a.toList == b.toList) = false:=by
 rw [beq_eq_false_iff_ne]
 intro e
 rw [ByteArray.toList_eq,ByteArray.toList_eq] at e
 exact h (ByteArray.ext (Array.toList_inj.1 e))
set_option maxHeartbeats 2000000 in
theorem rtwice_any (c : Cf.Cl) (vs : Array Value) (ms : List Cf.Mb) (v : Value) (n : ByteArray × ByteArray) (w : World) (hv : ClR w vs c) (hm : MsR w v ms) :
  Calls Tryz.prog 116 #[.agg vs,v,ndV n] w fun e w'=>e = .returned (.bool (Cf.inB n (Cf.ahead c.pool ms ms.length))) ∧ Below w.heap.size w w':=by
 have HC0:=hid hv
 have HV:=hid hm
 obtain ⟨pv,fv,mv,rfl,hp,hf,hms⟩:=hv
 obtain ⟨pa,pc,rfl⟩:=hp.len
 obtain ⟨fa,fc,rfl⟩:=hf.len
 obtain ⟨ma,mc,rfl⟩:=hms.len
 obtain ⟨a,cap,rfl⟩:=hm.len
 obtain ⟨r,hr⟩ : ∃ r,r = Cf.inB n (Cf.ahead c.pool ms ms.length):=⟨_,rfl⟩
 rw [← hr]
 have HR:=hid hr
 have HLn:=hid hm.size
 obtain ⟨n1,n2⟩:=n
 unfold ndV
 dsimp only at HR ⊢
 clear hp hf hms hm hr
 go_enter Tryz.func116,Tryz.ntmps116
 go_wp2_with fail
 obtain ⟨W1,hW1⟩ : ∃ W1,W1 = ((w.alloc (.cells #[.int .i64 c.mi,.int .i64 c.ma,.slice pa c.pool.length pc,.int .i64 c.ac,.int .i64 c.th,.int .i64 c.su,.slice fa c.fs.length fc,.slice ma c.ms.length mc] 26)).alloc (.cells #[.string ⟨#[]⟩,.string n1,.string n2] 44)):=⟨_,rfl⟩
 obtain ⟨bC,bN,hzW,B1⟩:=boxes2 (w:=w) (w1:=W1) (by rw [hW1];exact Below.refl _ _)
 rw [← hW1]
 have HB1:=hid B1
 have BC1:=hid bC
 have BN1:=hid bN
 clear hW1 bC bN B1
 go_loopw [7] (fun i wr=>∃ k : Nat,k ≤ ms.length ∧ i = .int .i64 k ∧ Hid (Cf.inB (n1,n2) (Cf.ahead c.pool ms k) = false) ∧ Below W1.heap.size W1 wr) (fun i _=>ms.length - (intOf i).toNat)
 case atStart=>exact ⟨0,by omega,rfl,rfl,Below.refl _ _⟩
 case round =>
  obtain ⟨k,hk,rfl,htk,hbl⟩:=hrel
  have HJ:=hid hbl
  have hln:=HLn.out
  have hBr : Below w.heap.size w wr:=belows HB1.out hbl HB1.out.size
  by_cases hlt : k < ms.length
  ·obtain ⟨x,hx⟩ : ∃ x,ms[k]? = some x:=⟨ms[k],List.getElem?_eq_getElem hlt⟩
   obtain ⟨b,o,cap',cv,hw,hv2,hbb,hB,hH,hl,c0,c1,c2,c3,c4,c5,c6⟩:=(HV.out.below hBr (Nat.le_refl _)).at hx
   obtain ⟨rfl,-,rfl⟩:=Value.slice.inj hv2
   have i1 : (k : Int) < (ms.length : Int):=by omega
   have hx1:=HC0.out
   have HA1:=fun W (q : Below w.heap.size w W)=>rmember_any c _ x cv hw W (HC0.out.below q (Nat.le_refl _))
   obtain ⟨xa,xc,rfl⟩:=hB.len
   obtain ⟨ya,yc,rfl⟩:=hH.len
   have hstep:=fun (hne : ¬ ((Cf.mbO c.pool x).1.1 = n1 ∧ (Cf.mbO c.pool x).1.2 = n2))=>inB_take (n:=(n1,n2)) htk.out hx hne
   have hyes:=fun (he : (Cf.mbO c.pool x).1.1 = n1 ∧ (Cf.mbO c.pool x).1.2 = n2)=>inB_yes (n:=(n1,n2)) hx he
   obtain ⟨⟨⟨x1,x2⟩,xe⟩,hxe⟩ : ∃ y,y = Cf.mbO c.pool x:=⟨_,rfl⟩
   rw [← hxe] at HA1 hstep hyes
   unfold ndV mbV at HA1
   dsimp only at HA1 hstep hyes
   have HA:=hid HA1
   have HS:=hid hstep
   have HY:=hid hyes
   have bC:=BC1.out.below hbl BC1.out.sz
   have bN:=BN1.out.below hbl BN1.out.sz
   have hzr:=hbl.size
   (have q0:=bC.cell 0;have fq0:=bC.frozen 0;have q1:=bC.cell 1;have fq1:=bC.frozen 1;have q2:=bC.cell 2;have fq2:=bC.frozen 2;have q3:=bC.cell 3;have fq3:=bC.frozen 3;have q4:=bC.cell 4;have fq4:=bC.frozen 4;have q5:=bC.cell 5;have fq5:=bC.frozen 5;have q6:=bC.cell 6;have fq6:=bC.frozen 6;have q7:=bC.cell 7;have fq7:=bC.frozen 7;simp at q0 q1 q2 q3 q4 q5 q6 q7)
   have p0:=bN.cell 0
   have p1:=bN.cell 1
   have p2:=bN.cell 2
   simp at p0 p1 p2
   clear hx hv2 hB hH hl hx1 HA1 hstep hyes hxe bC bN
   have hn1 : ¬ wr.heap.size = w.heap.size:=by omega
   have hn2 : ¬ wr.heap.size = b:=by omega
   have hn3 : ¬ wr.heap.size = w.heap.size + 1:=by omega
   go_wp2_with fail
   go_region_held3 (fun w'=>w'.cell? ⟨w.heap.size,0,none⟩ = some (.int .i64 c.mi) ∧ w'.cell? ⟨w.heap.size,1,none⟩ = some (.int .i64 c.ma) ∧ w'.cell? ⟨w.heap.size,2,none⟩ = some (.slice pa c.pool.length pc) ∧ w'.cell? ⟨w.heap.size,3,none⟩ = some (.int .i64 c.ac) ∧ w'.cell? ⟨w.heap.size,4,none⟩ = some (.int .i64 c.th) ∧ w'.cell? ⟨w.heap.size,5,none⟩ = some (.int .i64 c.su) ∧ w'.cell? ⟨w.heap.size,6,none⟩ = some (.slice fa c.fs.length fc) ∧ w'.cell? ⟨w.heap.size,7,none⟩ = some (.slice ma c.ms.length mc) ∧
     w'.cell? ⟨b,o + k * 7,none⟩ = some (.int .i64 x.ac) ∧ w'.cell? ⟨b,o + k * 7 + 1,none⟩ = some (.int .i64 x.nm) ∧ w'.cell? ⟨b,o + k * 7 + 2,none⟩ = some (.int .i64 x.ds) ∧ w'.cell? ⟨b,o + k * 7 + 3,none⟩ = some (.int .i64 x.st) ∧ w'.cell? ⟨b,o + k * 7 + 4,none⟩ = some (.int .i64 x.lc) ∧ w'.cell? ⟨b,o + k * 7 + 5,none⟩ = some (.slice xa x.code.length xc) ∧ w'.cell? ⟨b,o + k * 7 + 6,none⟩ = some (.slice ya x.hs.length yc))
    (first|exact ⟨q0,q1,q2,q3,q4,q5,q6,q7,c0,c1,c2,c3,c4,c5,c6⟩|go_keep)
    (first|(go_at_call 25;refine (HA.out _ BLw).mono ?_;rintro e w2 ⟨rfl,hb2⟩;have hB2 : Below wr.heap.size wr w2:=(by first|exact below_undrew hb2|exact belows (((Below.refl wr.heap.size wr).drew).alloc (by simp) _) hb2 (by simp));(try (have bX:=(L3.BX.new wr.drew #[.string ⟨#[]⟩,.string ⟨#[]⟩,.string ⟨#[]⟩] 44).below hb2 (by simp);have xq0:=bX.cell 0;have xq1:=bX.cell 1;have xq2:=bX.cell 2;have fx0:=bX.frozen 0;have fx1:=bX.frozen 1;have fx2:=bX.frozen 2;have hzx:=bX.sz;simp at xq0 xq1 xq2 fx0 fx1 fx2 hzx));have bN:=(BN1.out.below HJ.out BN1.out.sz).below hB2 (BN1.out.below HJ.out BN1.out.sz).sz;clear p0 p1 p2;have p0:=bN.cell 0;have p1:=bN.cell 1;have p2:=bN.cell 2;have hzq:=bN.sz;simp at p0 p1 p2;have HJ2:=hid (belows HJ.out hB2 HJ.out.size);have bC:=(BC1.out.below HJ.out BC1.out.sz).below hB2 (BC1.out.below HJ.out BC1.out.sz).sz;clear q0 q1 q2 q3 q4 q5 q6 q7 fq0 fq1 fq2 fq3 fq4 fq5 fq6 fq7;(obtain ⟨q0,q1,q2,q3,q4,q5,q6,q7⟩:=bC.cells8);have c0:=(hB2.cell (p:=⟨b,o + k * 7,none⟩) (by simpa using hbb)).trans c0;have c1:=(hB2.cell (p:=⟨b,o + k * 7 + 1,none⟩) (by simpa using hbb)).trans c1;have c2:=(hB2.cell (p:=⟨b,o + k * 7 + 2,none⟩) (by simpa using hbb)).trans c2;have c3:=(hB2.cell (p:=⟨b,o + k * 7 + 3,none⟩) (by simpa using hbb)).trans c3;have c4:=(hB2.cell (p:=⟨b,o + k * 7 + 4,none⟩) (by simpa using hbb)).trans c4;have c5:=(hB2.cell (p:=⟨b,o + k * 7 + 5,none⟩) (by simpa using hbb)).trans c5;have c6:=(hB2.cell (p:=⟨b,o + k * 7 + 6,none⟩) (by simpa using hbb)).trans c6))
   all_goals
    have B12:=HJ2.out
    have hz12:=B12.size
    by_cases hxy : x1 = n1 ∧ x2 = n2
    ·obtain ⟨rfl,rfl⟩:=hxy
     have HF:=hid (HR.out.trans (HY.out ⟨rfl,rfl⟩))
     clear HY HS
     go_wp2
     go_ret
     exact ⟨by rw [HF.out];rfl,(belows HB1.out (show Below W1.heap.size W1 _ from BLw) HB1.out.size)⟩
    ·have HF:=hid (HS.out hxy)
     have hd : x1 ≠ n1 ∨ (x1 = n1 ∧ x2 ≠ n2):=by
      by_cases e1 : x1 = n1
      ·exact .inr ⟨e1,fun e2=>hxy ⟨e1,e2⟩⟩
      ·exact .inl e1
     clear HY HS hxy
     rcases hd with hd|⟨rfl,hd⟩
     all_goals
      have hd1:=str_ne hd
      clear hd
      go_wp2
      go_roundw
      case rel=>exact ⟨k + 1,by omega,by go_num,HF,BLw⟩
      case measure=>simp [intOf];omega
  ·obtain rfl : k = ms.length:=by omega
   have HF : Hid (r = false):=HR.out.trans htk.out
   go_wp2
   go_ret
   exact ⟨by rw [HF.out];rfl,hBr⟩
end Go.Proofs.YtnojgiflgmnjlaaGreatDoor
namespace Go.Proofs.YtnojgiflgmnjlaaGreatDoor
open Go.RowKit
set_option maxHeartbeats 1000000 in
theorem rcodes_any (P : List L3.Cp.C) (v : Value) (w : World) (hv : Kit.IsS 5 w v P.length (P.flatMap L3.cL)) :
  Calls Tryz.prog 50 #[v] w fun e w'=>e = .returned (.int .i64 (Cf.cix P : Nat)) ∧ Below w.heap.size w w':=by
 have HF0:=fun W (k : Below w.heap.size w W)=>(show Calls Tryz.prog 98 #[v,.agg (L3.cC Cf.codeC)] W fun e w'=>e = .returned (.tuple #[.int .i64 (Cf.cix P : Nat),.bool (decide (Cf.cix P ≠ 0))]) ∧ Below W.heap.size W w' from (L3.rfind_any P Cf.codeC v W (hv.below k (Nat.le_refl _))).mono (by
  rintro e w' ⟨r,b,hr,rfl,hb⟩
  obtain ⟨rfl,rfl⟩:=Cf.fi_cix hr
  exact ⟨rfl,hb⟩))
 unfold L3.cC Cf.codeC Cf.codeS at HF0
 dsimp only at HF0
 obtain ⟨n,hn⟩ : ∃ n,n = Cf.cix P:=⟨_,rfl⟩
 rw [← hn] at HF0 ⊢
 obtain ⟨a,cap,rfl⟩:=hv.len
 clear hv hn
 by_cases h0 : n = 0
 ·subst h0
  rw [decide_eq_false (by simp)] at HF0
  have HF:=hid HF0
  clear HF0
  go_enter Tryz.func50,Tryz.ntmps50
  go_wp2_with (go_at_call 98;refine (HF.out _ BLw).mono ?_;rintro e w1 ⟨rfl,hb1⟩)
  go_ret
  exact ⟨rfl,BLw⟩
 ·rw [decide_eq_true h0] at HF0
  have HF:=hid HF0
  clear HF0 h0
  go_enter Tryz.func50,Tryz.ntmps50
  go_wp2_with (go_at_call 98;refine (HF.out _ BLw).mono ?_;rintro e w1 ⟨rfl,hb1⟩)
  go_ret
  exact ⟨rfl,BLw⟩
theorem region_named {P : Program} {id : Nat} {ops : Array Oper} {b : Bool} {Q : Exit → Act → World → Prop} {a : Act} {w : World} (h : ∀ W,W = w → (Code.region id ops b).wp P Q a W) : (Code.region id ops b).wp P Q a w:=h w rfl
set_option maxHeartbeats 1000000 in
theorem rnamed_any (c : Cf.Cl) (vs : Array Value) (m : Cf.Mb) (cv hv : Value) (w : World) (h : ClR w vs c) :
  Calls Tryz.prog 114 #[.agg vs,mbV m cv hv] w fun e w'=>e = .returned (.tuple #[ndV (Cf.nmO c.pool m).1,.int .i64 (Cf.nmO c.pool m).2]) ∧ Below w.heap.size w w':=by
 have HM0:=fun W (k : Below w.heap.size w W)=>rmember_any c vs m cv hv W (h.below k (Nat.le_refl _))
 obtain ⟨pv,fv,mv,rfl,-,-,-⟩:=h
 unfold Cf.nmO
 obtain ⟨⟨⟨n1,n2⟩,er⟩,hx⟩ : ∃ x,x = Cf.mbO c.pool m:=⟨_,rfl⟩
 rw [← hx] at HM0 ⊢
 dsimp only at HM0 ⊢
 have HN0:=fun W=>L2.rmemberName_any n1 W
 obtain ⟨me,hme⟩ : ∃ me,me = L2.memE (L2.Ds.bl n1):=⟨_,rfl⟩
 rw [← hme] at HN0 ⊢
 unfold Cf.accB
 unfold ndV mbV at HM0 ⊢
 have HM:=hid HM0
 have HN:=hid HN0
 obtain ⟨x,hbx⟩ : ∃ x,x = bits .andNot .i64 m.ac 9:=⟨_,rfl⟩
 rw [← hbx]
 have hbx2:=hbx.symm
 clear HM0 HN0 hx hme hbx
 by_cases h1 : (x != 0) = true
 ·rw [if_pos h1]
  go_enter Tryz.func114,Tryz.ntmps114
  go_wp2
  exact bodyPost_ret (v:=.tuple #[.agg #[.string ⟨#[]⟩,.string ⟨#[]⟩,.string ⟨#[]⟩],.int .i64 42]) (by simp [results,Tryz.results114,go_sem]) rfl ⟨rfl,BLw⟩
 ·rw [if_neg h1]
  have h1' : (x != 0) = false:=by simpa using h1
  clear h1
  by_cases h2 : er = 0
  ·subst h2
   rw [if_neg (by decide)]
   go_enter Tryz.func114,Tryz.ntmps114
   go_wp2_with (go_at_call 25;(with_reducible refine (HM.out _ ?_).mono ?_);exact BLw;rintro e w1 ⟨rfl,hb1⟩;obtain ⟨bC,bM,bN,hz1,B1⟩:=boxes3 hb1;have x0:=bN.cell 0;have x1:=bN.cell 1;have x2:=bN.cell 2;have fx0:=bN.frozen 0;have fx1:=bN.frozen 1;have fx2:=bN.frozen 2;simp at x0 x1 x2;have hn1 : ¬ w1.heap.size = w.heap.size + 1 + 1:=(by omega);have hn2 : ¬ w.heap.size + 1 + 1 = w1.heap.size:=(by omega);have hzx : w.heap.size + 1 + 1 < w1.heap.size:=(by omega))
   refine region_named fun W3 hW3=>?_
   have hB3 : Below w1.heap.size w1 W3:=by rw [hW3];exact (Below.refl _ _).alloc (Nat.le_refl _) _
   have bS : L3.BX W3 w1.heap.size #[.string ⟨#[]⟩,.string n1,.string n2] 44:=by rw [hW3];exact L3.BX.new _ _ _
   have bR:=bN.below hB3 bN.sz
   have HB3:=hid (belows B1 hB3 B1.size)
   have BS3:=hid bS
   have BR3:=hid bR
   have hz3:=bS.sz
   clear x0 x1 x2 fx0 fx1 fx2 hW3 hb1 bC bM
   have s0:=bS.cell 0
   have s1:=bS.cell 1
   have s2:=bS.cell 2
   have x0:=bR.cell 0
   have x1:=bR.cell 1
   have x2:=bR.cell 2
   have fx0:=bR.frozen 0
   have fx1:=bR.frozen 1
   have fx2:=bR.frozen 2
   simp at s0 s1 s2 x0 x1 x2
   clear bS bR bN hB3 B1
   go_region_held3 (fun w'=>w'.cell? ⟨w1.heap.size,0,none⟩ = some (.string ⟨#[]⟩) ∧ w'.cell? ⟨w1.heap.size,1,none⟩ = some (.string n1) ∧ w'.cell? ⟨w1.heap.size,2,none⟩ = some (.string n2))
    (first|exact ⟨s0,s1,s2⟩|go_keep)
    (first|(go_at_call 157;refine (HN.out _).mono ?_;rintro e w2 ⟨rfl,hb2⟩;first|(have h2' : Below W3.heap.size W3 w2:=below_undrew hb2;have bS:=BS3.out.below h2' BS3.out.sz;have bR:=BR3.out.below h2' BR3.out.sz;clear s0 s1 s2 x0 x1 x2 fx0 fx1 fx2;have s0:=bS.cell 0;have s1:=bS.cell 1;have s2:=bS.cell 2;have x0:=bR.cell 0;have x1:=bR.cell 1;have x2:=bR.cell 2;have fx0:=bR.frozen 0;have fx1:=bR.frozen 1;have fx2:=bR.frozen 2;simp at s0 s1 s2 x0 x1 x2;have HB4:=hid (belows HB3.out h2' HB3.out.size);have hz4:=bS.sz;have hz5:=bR.sz)|(have r0:=(hb2.cell (p:=⟨w.heap.size + 1 + 1,0,none⟩) (by simp;omega)).trans (show _ = some (.string ⟨#[]⟩) by simp [x0,x1,x2,go_sem]);have r1:=(hb2.cell (p:=⟨w.heap.size + 1 + 1,1,none⟩) (by simp;omega)).trans (show _ = some (.string n1) by simp [x0,x1,x2,go_sem]);have r2:=(hb2.cell (p:=⟨w.heap.size + 1 + 1,2,none⟩) (by simp;omega)).trans (show _ = some (.string n2) by simp [x0,x1,x2,go_sem]);have z0:=(hb2.cell (p:=⟨w1.heap.size,0,none⟩) (by simp;omega)).trans (show _ = some (.string ⟨#[]⟩) by simp [s0,s1,s2,hn1,hn2,go_sem]);have z1:=(hb2.cell (p:=⟨w1.heap.size,1,none⟩) (by simp;omega)).trans (show _ = some (.string n1) by simp [s0,s1,s2,hn1,hn2,go_sem]);have z2:=(hb2.cell (p:=⟨w1.heap.size,2,none⟩) (by simp;omega)).trans (show _ = some (.string n2) by simp [s0,s1,s2,hn1,hn2,go_sem]);clear s0 s1 s2 x0 x1 x2 fx0 fx1 fx2;have s0:=z0;have s1:=z1;have s2:=z2;have x0:=r0;have x1:=r1;have x2:=r2;have B3:=HB3.out;have HB4:=hid (belows (show Below w.heap.size w _ from BLw) hb2 (by simp;omega)))))
   have B4:=HB4.out
   have hz6:=B4.size
   go_wp2
   exact bodyPost_ret (v:=.tuple #[.agg #[.string ⟨#[]⟩,.string n1,.string n2],.int .i64 me]) (by simp [results,Tryz.results114,go_sem,x0,x1,x2,hn1,hn2,hzx]) rfl ⟨rfl,BLw⟩
  ·rw [if_pos h2]
   have hd : (er != 0) = true:=by simpa using h2
   clear h2
   go_enter Tryz.func114,Tryz.ntmps114
   go_wp2_with (go_at_call 25;(with_reducible refine (HM.out _ ?_).mono ?_);exact BLw;rintro e w1 ⟨rfl,hb1⟩;obtain ⟨bC,bM,bN,hz1,B1⟩:=boxes3 hb1;have x0:=bN.cell 0;have x1:=bN.cell 1;have x2:=bN.cell 2;have fx0:=bN.frozen 0;have fx1:=bN.frozen 1;have fx2:=bN.frozen 2;simp at x0 x1 x2;have hn1 : ¬ w1.heap.size = w.heap.size + 1 + 1:=(by omega);have hn2 : ¬ w.heap.size + 1 + 1 = w1.heap.size:=(by omega);have hzx : w.heap.size + 1 + 1 < w1.heap.size:=(by omega))
   exact bodyPost_ret (v:=.tuple #[.agg #[.string ⟨#[]⟩,.string ⟨#[]⟩,.string ⟨#[]⟩],.int .i64 er]) (by simp [results,Tryz.results114,go_sem,x0,x1,x2,hn1,hn2,hzx]) rfl ⟨rfl,BLw⟩
end Go.Proofs.YtnojgiflgmnjlaaGreatDoor
