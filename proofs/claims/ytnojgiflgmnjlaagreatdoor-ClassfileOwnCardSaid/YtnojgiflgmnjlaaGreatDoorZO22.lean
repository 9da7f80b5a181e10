/- Own texts for the claim, part 22. -/
import Derived.Test.YtnojgiflgmnjlaaGreatDoorZO21
set_option maxRecDepth 100000
namespace Go.Proofs.YtnojgiflgmnjlaaGreatDoor
open Go.RowKit
theorem ones_rows {w : World} : ∀ {rs : List (List Value)} {ms : List Cf.Mb},MsC w rs ms → ∀ u ∈ rs.flatten,u.oneCell' = true
 | [],[],_,u,hu=>by simp at hu
 | r :: rs,m :: ms,h,u,hu=>by
  rw [List.flatten_cons,List.mem_append] at hu
  rcases hu with hu|hu
  ·obtain ⟨cv,hv,rfl,hb,hh,-⟩:=h.1
   obtain ⟨a,c,rfl⟩:=hb.len
   obtain ⟨a2,c2,rfl⟩:=hh.len
   simp at hu
   rcases hu with rfl|rfl|rfl|rfl|rfl|rfl|rfl <;> rfl
  ·exact ones_rows h.2 u hu
 | [],_ :: _,h,_,_=>h.elim
 | _ :: _,[],h,_,_=>h.elim
theorem Half.step {w0 w w' : World} {base k : Nat} {ms : List Cf.Mb} {rs : List (List Value)} {m : Cf.Mb} {r : List Value} (h : Half w0 w base ms k rs) (hm : ms[k]? = some m) (hr : OMb w' base r m) (hk : ∀ x y,OMb w base x y → OMb w' base x y) : Half w0 w' base ms (k + 1) (rs.set k r):=by
 refine ⟨by rw [List.length_set];exact h.1,fun j x y hx hy=>?_⟩
 by_cases e : j = k
 ·subst e
  rw [hm] at hy
  cases hy
  have hlt : j < rs.length:=by rw [h.1];exact (List.getElem?_eq_some_iff.1 hm).1
  rw [List.getElem?_set_self hlt] at hx
  cases hx
  exact ⟨fun _=>hr,fun hj=>by omega⟩
 ·rw [List.getElem?_set_ne (fun e2=>e e2.symm)] at hx
  obtain ⟨h1,h2⟩:=h.2 j x y hx hy
  exact ⟨fun hj=>hk _ _ (h1 (by omega)),fun hj=>h2 (by omega)⟩
theorem own_frozen {w : World} {base : Nat} {e : TypeId} {size g n cap : Nat} {xs : List Value} (h : w.ownsRow base e size (.slice (some ⟨g,0,none⟩) n cap) n xs) (j : Nat) : w.frozen? ⟨g,j,none⟩ = false:=by
 rcases h.2 with ⟨h1,-⟩|⟨g2,cap2,cur,h1,-,hh,-⟩
 ·cases h1
 ·obtain ⟨h2,-,-⟩:=Value.slice.inj h1
  obtain rfl : g = g2:=by simpa using h2
  simp [World.frozen?,hh]
theorem own_cells {w : World} {base : Nat} {e : TypeId} {size g n cap : Nat} {xs : List Value} (h : w.ownsRow base e size (.slice (some ⟨g,0,none⟩) n cap) n xs) (j : Nat) (u : Value) (hj : xs[j]? = some u) : w.cell? ⟨g,j,none⟩ = some u:=by
 have h2:=h.cells (g:=g) rfl j u hj
 have h3 : (⟨g,0,none⟩ : Addr).add j = ⟨g,j,none⟩:=by
  unfold Addr.add
  split <;> simp_all
 rwa [h3] at h2
theorem steps7 {W : World} {base : Nat} {e : TypeId} {size g n cap p : Nat} {xs : List Value} (h : W.ownsRow base e size (.slice (some ⟨g,0,none⟩) n cap) n xs) (hp : p + 7 ≤ xs.length) (a0 a1 a2 a3 a4 a5 : Value) :
  ∃ x0 x1 x2 x3 x4 x5 x6,W.cell? ⟨g,p,none⟩ = some x0 ∧ (W.setCell ⟨g,p,none⟩ a0).cell? ⟨g,p + 1,none⟩ = some x1 ∧
   ((W.setCell ⟨g,p,none⟩ a0).setCell ⟨g,p + 1,none⟩ a1).cell? ⟨g,p + 2,none⟩ = some x2 ∧
   (((W.setCell ⟨g,p,none⟩ a0).setCell ⟨g,p + 1,none⟩ a1).setCell ⟨g,p + 2,none⟩ a2).cell? ⟨g,p + 3,none⟩ = some x3 ∧
   ((((W.setCell ⟨g,p,none⟩ a0).setCell ⟨g,p + 1,none⟩ a1).setCell ⟨g,p + 2,none⟩ a2).setCell ⟨g,p + 3,none⟩ a3).cell? ⟨g,p + 4,none⟩ = some x4 ∧
   (((((W.setCell ⟨g,p,none⟩ a0).setCell ⟨g,p + 1,none⟩ a1).setCell ⟨g,p + 2,none⟩ a2).setCell ⟨g,p + 3,none⟩ a3).setCell ⟨g,p + 4,none⟩ a4).cell? ⟨g,p + 5,none⟩ = some x5 ∧
   ((((((W.setCell ⟨g,p,none⟩ a0).setCell ⟨g,p + 1,none⟩ a1).setCell ⟨g,p + 2,none⟩ a2).setCell ⟨g,p + 3,none⟩ a3).setCell ⟨g,p + 4,none⟩ a4).setCell ⟨g,p + 5,none⟩ a5).cell? ⟨g,p + 6,none⟩ = some x6:=by
 have h1:=owns_set h p a0
 have h2:=owns_set h1 (p + 1) a1
 have h3:=owns_set h2 (p + 2) a2
 have h4:=owns_set h3 (p + 3) a3
 have h5:=owns_set h4 (p + 4) a4
 have h6:=owns_set h5 (p + 5) a5
 exact ⟨_,_,_,_,_,_,_,own_cells h p _ (List.getElem?_eq_getElem (by omega)),own_cells h1 (p + 1) _ (List.getElem?_eq_getElem (by simp only [List.length_set];omega)),own_cells h2 (p + 2) _ (List.getElem?_eq_getElem (by simp only [List.length_set];omega)),own_cells h3 (p + 3) _ (List.getElem?_eq_getElem (by simp only [List.length_set];omega)),own_cells h4 (p + 4) _ (List.getElem?_eq_getElem (by simp only [List.length_set];omega)),own_cells h5 (p + 5) _ (List.getElem?_eq_getElem (by simp only [List.length_set];omega)),own_cells h6 (p + 6) _ (List.getElem?_eq_getElem (by simp only [List.length_set];omega))⟩
theorem flat7_len : ∀ {rs : List (List Value)} {k : Nat},(∀ x ∈ rs,x.length = 7) → k < rs.length → k * 7 + 7 ≤ rs.flatten.length
 | [],k,_,h=>by simp at h
 | x :: rs,0,hl,_=>by rw [List.flatten_cons,List.length_append,hl x (by simp)];omega
 | x :: rs,k + 1,hl,h=>by
  have:=flat7_len (rs:=rs) (k:=k) (fun y hy=>hl y (List.mem_cons_of_mem _ hy)) (by simpa using h)
  rw [List.flatten_cons,List.length_append,hl x (by simp)]
  omega
theorem half_put {w wr W2 : World} {base b n cap k : Nat} {ms : List Cf.Mb} {rs : List (List Value)} {m : Cf.Mb} {cv hv : Value} (h : Half w wr base ms k rs) (hm : ms[k]? = some m) (hb : Below wr.heap.size wr W2) (hw : base ≤ wr.heap.size) (ho : OMb W2 wr.heap.size (mL m cv hv) m)
  (hO : W2.ownsRow base 42 7 (.slice (some ⟨b,0,none⟩) n cap) n rs.flatten) :
  Half w (((((((W2.setCell ⟨b,k * 7,none⟩ (.int .i64 m.ac)).setCell ⟨b,k * 7 + 1,none⟩ (.int .i64 m.nm)).setCell ⟨b,k * 7 + 2,none⟩ (.int .i64 m.ds)).setCell ⟨b,k * 7 + 3,none⟩ (.int .i64 m.st)).setCell ⟨b,k * 7 + 4,none⟩ (.int .i64 m.lc)).setCell ⟨b,k * 7 + 5,none⟩ cv).setCell ⟨b,k * 7 + 6,none⟩ hv) base ms (k + 1) (rs.set k (mL m cv hv)) ∧
   (((((((W2.setCell ⟨b,k * 7,none⟩ (.int .i64 m.ac)).setCell ⟨b,k * 7 + 1,none⟩ (.int .i64 m.nm)).setCell ⟨b,k * 7 + 2,none⟩ (.int .i64 m.ds)).setCell ⟨b,k * 7 + 3,none⟩ (.int .i64 m.st)).setCell ⟨b,k * 7 + 4,none⟩ (.int .i64 m.lc)).setCell ⟨b,k * 7 + 5,none⟩ cv).setCell ⟨b,k * 7 + 6,none⟩ hv).ownsRow base 42 7 (.slice (some ⟨b,0,none⟩) n cap) n (rs.set k (mL m cv hv)).flatten:=by
 have hlt : k < rs.length:=by rw [h.1];exact (List.getElem?_eq_some_iff.1 hm).1
 have hg : W2.grownBy (((((((W2.setCell ⟨b,k * 7,none⟩ (.int .i64 m.ac)).setCell ⟨b,k * 7 + 1,none⟩ (.int .i64 m.nm)).setCell ⟨b,k * 7 + 2,none⟩ (.int .i64 m.ds)).setCell ⟨b,k * 7 + 3,none⟩ (.int .i64 m.st)).setCell ⟨b,k * 7 + 4,none⟩ (.int .i64 m.lc)).setCell ⟨b,k * 7 + 5,none⟩ cv).setCell ⟨b,k * 7 + 6,none⟩ hv) (some b) :=
  L3.grown_trans (L3.grown_trans (L3.grown_trans (L3.grown_trans (L3.grown_trans (L3.grown_trans (L3.grownBy_setCell' _ _ _) (L3.grownBy_setCell' _ _ _)) (L3.grownBy_setCell' _ _ _)) (L3.grownBy_setCell' _ _ _)) (L3.grownBy_setCell' _ _ _)) (L3.grownBy_setCell' _ _ _)) (L3.grownBy_setCell' _ _ _)
 refine ⟨h.step hm ((ho.mono hw).apart hO (by simpa [Value.ownBlock] using hg)) fun x y hx=>(hx.below hb (Nat.le_refl _)).apart hO (by simpa [Value.ownBlock] using hg),?_⟩
 have h7:=owns_set (owns_set (owns_set (owns_set (owns_set (owns_set (owns_set hO (k * 7) (.int .i64 m.ac)) (k * 7 + 1) (.int .i64 m.nm)) (k * 7 + 2) (.int .i64 m.ds)) (k * 7 + 3) (.int .i64 m.st)) (k * 7 + 4) (.int .i64 m.lc)) (k * 7 + 5) cv) (k * 7 + 6) hv
 rw [set7 h.lens hlt] at h7
 exact h7
def cmFn : Value:=.func (.func 78) #[] #[]
theorem flat7 {w0 w : World} {base k : Nat} {ms : List Cf.Mb} : ∀ {rs : List (List Value)} {j : Nat} {r : List Value},(∀ x ∈ rs,x.length = 7) → rs[j]? = some r → ∀ i,i < 7 → rs.flatten[j * 7 + i]? = r[i]?
 | [],_,_,_,h,_,_=>by simp at h
 | x :: rs,0,r,hl,h,i,hi=>by
  simp at h
  subst h
  rw [List.flatten_cons,List.getElem?_append_left (by have:=hl x (by simp);omega)]
  simp
 | x :: rs,j + 1,r,hl,h,i,hi=>by
  have hx:=hl x (by simp)
  rw [List.flatten_cons,List.getElem?_append_right (by omega),hx,← flat7 (w0:=w0) (w:=w) (base:=base) (k:=k) (ms:=ms) (fun y hy=>hl y (List.mem_cons_of_mem _ hy)) (by simpa using h) i hi]
  congr 1
  omega
set_option maxHeartbeats 2000000 in
theorem cloneEach_any (ms : List Cf.Mb) (v : Value) (w : World) (h : MsR w v ms) (hn : ms.length * 88 ≤ 140737488355328) (hh : ∀ m ∈ ms,m.hs.length * 32 ≤ 140737488355328) :
  Calls Tryz.prog 77 #[v,cmFn] w fun e w'=>∃ v',e = .returned v' ∧ OMs w' w.heap.size v' ms ∧ Below w.heap.size w w':=by
 obtain ⟨rs,hC,hS⟩:=h
 have HC:=hid (mclone_any ms.length rs.flatten v w hS hn (ones_rows hC))
 have HN:=hid (fun (W : World)=>half_new (w:=W) (base:=w.heap.size) hC)
 have HH:=hid hh
 unfold ClonePost at HC
 obtain ⟨a,cap,rfl⟩:=hS.len
 unfold cmFn
 clear hC hS hh
 go_enter Tryz.func77,Tryz.ntmps77
 go_wp2_with (go_at_call 128;refine HC.out.mono ?_;rintro e w1 ⟨v1,rfl,o1,hb1⟩;obtain ⟨g0,c0,rfl⟩:=L3.own_form o1)
 go_loopw [11] (fun i wr=>∃ (k : Nat) (rs' : List (List Value)),k ≤ ms.length ∧ i = .int .i64 k ∧ Half w wr w.heap.size ms k rs' ∧ wr.ownsRow w.heap.size 42 7 (.slice g0 ms.length c0) ms.length rs'.flatten ∧ Below w.heap.size w wr) (fun i _=>ms.length - (intOf i).toNat)
 case atStart=>exact ⟨0,rs,by omega,rfl,HN.out _,o1,hb1⟩
 case round =>
  obtain ⟨k,rs',hk,rfl,hHf,hO,hbl⟩:=hrel
  have hzr:=hbl.size
  by_cases hlt : k < ms.length
  ·obtain ⟨m,hx⟩ : ∃ x,ms[k]? = some x:=⟨ms[k],List.getElem?_eq_getElem hlt⟩
   obtain ⟨r,hr⟩ : ∃ r,rs'[k]? = some r:=⟨rs'[k]'(by rw [hHf.1];exact hlt),List.getElem?_eq_getElem _⟩
   obtain ⟨-,hrd⟩:=hHf.2 k r m hr hx
   obtain ⟨-,cv,hv,rfl,hB,hHs,hcl⟩:=hrd (Nat.le_refl _)
   obtain ⟨xa,xc,rfl⟩:=hB.len
   obtain ⟨ya,yc,rfl⟩:=hHs.len
   obtain ⟨b,o,cap',hv2,-,hbb,hc⟩:=(Kit.isS_of_owns hO (by omega)).some (by omega)
   obtain ⟨rfl,-,rfl⟩:=Value.slice.inj hv2
   have ho0 : o = 0:=by
    rcases hO.2 with ⟨h1,-⟩|⟨g',cap2,cur,h1,-⟩
    ·cases h1
    ·obtain ⟨h2,-,-⟩:=Value.slice.inj h1
     have h3 : b = g' ∧ o = 0:=by simpa using h2
     exact h3.2
   subst ho0
   have hf:=fun i hi=>flat7 (w0:=w) (w:=wr) (base:=w.heap.size) (k:=k) (ms:=ms) hHf.lens hr i hi
   simp only [Nat.zero_add] at hc
   have c0:=hc (k * 7) (.int .i64 m.ac) (by have:=hf 0 (by omega);simpa using this)
   have c1:=hc (k * 7 + 1) (.int .i64 m.nm) (by have:=hf 1 (by omega);simpa using this)
   have c2:=hc (k * 7 + 2) (.int .i64 m.ds) (by have:=hf 2 (by omega);simpa using this)
   have c3:=hc (k * 7 + 3) (.int .i64 m.st) (by have:=hf 3 (by omega);simpa using this)
   have c4:=hc (k * 7 + 4) (.int .i64 m.lc) (by have:=hf 4 (by omega);simpa using this)
   have c5:=hc (k * 7 + 5) _ (by have:=hf 5 (by omega);simpa using this)
   have c6:=hc (k * 7 + 6) _ (by have:=hf 6 (by omega);simpa using this)
   have hki : (k : Int) < (ms.length : Int):=by omega
   have HCm:=hid (fun W (q : Below w.heap.size w W)=>cloneMember_any m _ _ W ((hB.below q (Nat.le_refl _)).mono q.size) (hHs.below q (Nat.le_refl _)) hcl (HH.out m (List.mem_of_getElem? hx)))
   unfold mbV at HCm
   have HX:=hid hx
   have HHf:=hid hHf
   have HO:=hid hO
   have HL:=hid (flat7_len hHf.lens (by rw [hHf.1];exact hlt))
   have hgb : w.heap.size ≤ b:=Kit.own_base hO b (by simp [Value.ownBlock])
   clear hr hrd hv2 hf hc hB hHs hx hHf hO
   go_wp2_with (go_at_call 78;refine (HCm.out _ BLw).mono ?_;rintro e W2 ⟨cv2,hv2,rfl,hom,hb2⟩;have hsz2:=hb2.size;simp only [World.size_alloc] at hsz2;have Bw : Below wr.heap.size wr W2:=belows ((Below.refl _ _).alloc (Nat.le_refl _) _) hb2 (by simp only [World.size_alloc];omega);have HO2:=hid (Kit.owns_below HO.out Bw (Nat.le_refl _));have HOm:=hid hom;have HBw:=hid Bw;have fz : ∀ j,W2.frozen? ⟨b,j,none⟩ = false:=own_frozen HO2.out;have hvs:=HOm.out;obtain ⟨cv3,hv3,he3,oc,oh,-⟩:=hvs;obtain ⟨rfl,rfl⟩ : cv2 = cv3 ∧ hv2 = hv3:=(by simpa [mL] using he3);obtain ⟨g3,c3',rfl⟩:=L3.own_form oc;obtain ⟨g4,c4',rfl⟩:=L3.own_form oh;obtain ⟨x0,x1,x2,x3,x4,x5,x6,e0,e1,e2,e3,e4,e5,e6⟩:=steps7 HO2.out HL.out (.int .i64 m.ac) (.int .i64 m.nm) (.int .i64 m.ds) (.int .i64 m.st) (.int .i64 m.lc) (.slice g3 m.code.length c3');clear hb2 hom Bw he3 oc oh)
   obtain ⟨hH2,hO2⟩:=half_put HHf.out HX.out HBw.out hbl.size (HOm.out.mono (by simp)) HO2.out
   have hbw : Below w.heap.size w W2:=belows hbl HBw.out hbl.size
   exact ⟨⟨k + 1,_,by omega,by simp,hH2,hO2,BLw⟩,by simp [intOf];omega⟩
  ·obtain rfl : k = ms.length:=by omega
   go_wp2
   go_ret
   exact ⟨_,rfl,⟨rs',half_all hHf,hO⟩,hbl⟩
end Go.Proofs.YtnojgiflgmnjlaaGreatDoor
namespace Go.Proofs.YtnojgiflgmnjlaaGreatDoor
open Go.RowKit
def Cf.Szc (c : Cf.Cl) : Prop:=c.pool.length * 48 ≤ 140737488355328 ∧ c.fs.length * 88 ≤ 140737488355328 ∧ c.ms.length * 88 ≤ 140737488355328 ∧ (∀ m ∈ c.fs,m.hs.length * 32 ≤ 140737488355328) ∧ ∀ m ∈ c.ms,m.hs.length * 32 ≤ 140737488355328
theorem OMs.form {w : World} {base : Nat} {v : Value} {ms : List Cf.Mb} (h : OMs w base v ms) : ∃ a cap,v = .slice a ms.length cap:=by
 obtain ⟨rs,-,h2⟩:=h
 exact L3.own_form h2
def ApV (vs : Array Value) : Prop:=∀ k,(vs.getD 6 (.bool false)).ownBlock = some k → (vs.getD 7 (.bool false)).ownBlock ≠ some k
theorem OMs.lt {w : World} {base : Nat} {v : Value} {ms : List Cf.Mb} (h : OMs w base v ms) : ∀ k,v.ownBlock = some k → k < w.heap.size:=by
 obtain ⟨rs,-,h2⟩:=h
 exact Kit.own_lt h2
theorem OMs.ge {w : World} {base : Nat} {v : Value} {ms : List Cf.Mb} (h : OMs w base v ms) : ∀ k,v.ownBlock = some k → base ≤ k:=by
 obtain ⟨rs,-,h2⟩:=h
 exact Kit.own_base h2
set_option maxHeartbeats 2000000 in
theorem clone_any (c : Cf.Cl) (vs : Array Value) (w : World) (h : ClR w vs c) (hs : Cf.Szc c) :
  Calls Tryz.prog 33 #[.agg vs] w fun e w'=>∃ vs',e = .returned (.agg vs') ∧ OCl w' w.heap.size vs' c ∧ ApV vs' ∧ Below w.heap.size w w':=by
 obtain ⟨pv,fv,mv,rfl,hP,hF,hM⟩:=h
 have HP:=hid (fun W (k : Below w.heap.size w W)=>L3.cclone_any c.pool pv W (hP.below k (Nat.le_refl _)) hs.1)
 have HF:=hid (fun W (k : Below w.heap.size w W)=>cloneEach_any c.fs fv W (hF.below k (Nat.le_refl _)) hs.2.1 hs.2.2.2.1)
 have HM:=hid (fun W (k : Below w.heap.size w W)=>cloneEach_any c.ms mv W (hM.below k (Nat.le_refl _)) hs.2.2.1 hs.2.2.2.2)
 unfold L3.ClonePost at HP
 unfold cmFn at HF HM
 obtain ⟨xa,xc,rfl⟩:=hP.len
 obtain ⟨_,-,hf2⟩:=hF
 obtain ⟨ya,yc,rfl⟩:=hf2.len
 obtain ⟨_,-,hm2⟩:=hM
 obtain ⟨za,zc,rfl⟩:=hm2.len
 obtain ⟨mi,ma,pool,ac,th,su,fs,ms⟩:=c
 dsimp only at HP HF HM hs ⊢
 clear hP hf2 hm2 hs
 go_enter Tryz.func33,Tryz.ntmps33
 go_wp2_with (first
  | (go_at_call 77;have _g:=O2;have Bx3 : Below w.heap.size w (w2.setCell ⟨w.heap.size,6,none⟩ (.slice fa fs.length fc)):=BLw;refine (HM.out _ Bx3).mono ?_;rintro e w3 ⟨v3,rfl,o3,hb3⟩;obtain ⟨ga,gc,rfl⟩:=OMs.form o3;have B3:=belows Bx3 hb3 Bx3.size;have hz3:=hb3.size;simp only [World.size_setCell] at hz3 o3;have O3:=hid o3;have O1c:=hid (Kit.owns_below (Kit.owns_grown O1b.out (L3.set_grown _ w.heap.size 6 _) (by omega)) hb3 (Nat.le_refl _));have O2c:=hid ((O2.out.grown (L3.set_grown _ w.heap.size 6 _) (by omega)).below hb3 (Nat.le_refl _));have bM:=(BM2.out.set 6 (.slice fa fs.length fc)).below hb3 (by simp only [World.size_setCell];omega);have bR:=(BR2.out.grown (L3.set_grown w2 w.heap.size 6 (.slice fa fs.length fc)) (fun e=>by (have:=Option.some.inj e;omega))).below hb3 (by simp only [World.size_setCell];omega);clear m0 m1 m2 m3 m4 m5 m6 m7 g6 g7;have m0:=bM.cell 0;have m1:=bM.cell 1;have m2:=bM.cell 2;have m3:=bM.cell 3;have m4:=bM.cell 4;have m5:=bM.cell 5;have m6:=bM.cell 6;have m7:=bM.cell 7;have g7:=bM.frozen 7;simp at m0 m1 m2 m3 m4 m5 m6 m7;obtain ⟨r0,r1,r2,r3,r4,r5,r6,r7⟩:=bR.cells8;have f0:=bR.frozen 0;have f1:=bR.frozen 1;have f2:=bR.frozen 2;have f3:=bR.frozen 3;have f4:=bR.frozen 4;have f5:=bR.frozen 5;have f6:=bR.frozen 6;have f7:=bR.frozen 7;clear hb3 bM bR o3)
  | (go_at_call 77;have Bx : Below w.heap.size w (w1.setCell ⟨w.heap.size,2,none⟩ (.slice pa pool.length pc)):=BLw;refine (HF.out _ Bx).mono ?_;rintro e w2 ⟨v2,rfl,o2,hb2⟩;obtain ⟨fa,fc,rfl⟩:=OMs.form o2;have B2:=belows Bx hb2 Bx.size;have hz2:=hb2.size;simp only [World.size_setCell] at hz2 o2;have O2:=hid o2;have O1b:=hid (Kit.owns_below (Kit.owns_grown O1.out (L3.set_grown _ w.heap.size 2 _) (by omega)) hb2 (Nat.le_refl _));have bM:=(BM.out.set 2 (.slice pa pool.length pc)).below hb2 (by simp only [World.size_setCell];omega);have bR:=(BR.out.grown (L3.set_grown w1 w.heap.size 2 (.slice pa pool.length pc)) (fun e=>by (have:=Option.some.inj e;omega))).below hb2 (by simp only [World.size_setCell];omega);clear m0 m1 m2 m3 m4 m5 m6 m7 g2 g6 g7;have m0:=bM.cell 0;have m1:=bM.cell 1;have m2:=bM.cell 2;have m3:=bM.cell 3;have m4:=bM.cell 4;have m5:=bM.cell 5;have m6:=bM.cell 6;have m7:=bM.cell 7;have g6:=bM.frozen 6;have g7:=bM.frozen 7;simp at m0 m1 m2 m3 m4 m5 m6 m7;have BM2:=hid bM;have BR2:=hid bR;clear hb2 bM bR o2)
  | (go_at_call 76;refine (HP.out _ BLw).mono ?_;rintro e w1 ⟨v1,rfl,o1,hb1⟩;obtain ⟨pa,pc,rfl⟩:=L3.own_form o1;obtain ⟨bM,bR,hz1,B1⟩:=boxes2 hb1;unfold L3.OwnC at o1;simp only [World.size_alloc] at o1;have O1:=hid o1;have BM:=hid bM;have BR:=hid bR;have m0:=bM.cell 0;have m1:=bM.cell 1;have m2:=bM.cell 2;have m3:=bM.cell 3;have m4:=bM.cell 4;have m5:=bM.cell 5;have m6:=bM.cell 6;have m7:=bM.cell 7;have g2:=bM.frozen 2;have g6:=bM.frozen 6;have g7:=bM.frozen 7;simp at m0 m1 m2 m3 m4 m5 m6 m7;clear hb1 bM bR o1))
 refine bodyPost_ret (v:=.agg #[.int .i64 mi,.int .i64 ma,.slice pa pool.length pc,.int .i64 ac,.int .i64 th,.int .i64 su,.slice fa fs.length fc,.slice ga ms.length gc]) (by simp [results,Tryz.results33,go_sem,r0,r1,r2,r3,r4,r5,r6,r7]) rfl ⟨_,rfl,⟨_,_,_,rfl,?_,?_,?_⟩,fun k hk e9=>by (have q1:=OMs.lt O2.out k hk;have q2:=OMs.ge O3.out k e9;omega),BLw⟩
 ·have hlt2 : w.heap.size < w.heap.size + 1 + 1:=by omega
  have hlt : w.heap.size + 1 < w.heap.size + 1 + 1:=by omega
  refine L3.own_mono (base:=w.heap.size + 1 + 1) ?_ (by omega)
  (iterate 8 (refine Kit.owns_grown ?_ (L3.set_grown _ _ _ _) hlt))
  exact Kit.owns_grown O1c.out (L3.set_grown _ _ _ _) hlt2
 ·have hlt2 : w.heap.size < w1.heap.size:=by omega
  have hlt : w.heap.size + 1 < w1.heap.size:=by omega
  refine OMs.mono (base:=w1.heap.size) ?_ (by omega)
  (iterate 8 (refine OMs.grown ?_ (L3.set_grown _ _ _ _) hlt))
  exact O2c.out.grown (L3.set_grown _ _ _ _) hlt2
 ·have hlt2 : w.heap.size < w2.heap.size:=by omega
  have hlt : w.heap.size + 1 < w2.heap.size:=by omega
  refine OMs.mono (base:=w2.heap.size) ?_ (by omega)
  (iterate 8 (refine OMs.grown ?_ (L3.set_grown _ _ _ _) hlt))
  exact O3.out.grown (L3.set_grown _ _ _ _) hlt2
end Go.Proofs.YtnojgiflgmnjlaaGreatDoor
namespace Go.Proofs.YtnojgiflgmnjlaaGreatDoor
open Go.RowKit
theorem w2s_len (l : List Int) : (l.flatMap Cf.w2).length = 2 * l.length:=by
 induction l with
 | nil=>rfl
 | cons a l ih=>rw [List.flatMap_cons,List.length_append,ih,Cf.w2_len,List.length_cons];omega
theorem own2 {w : World} {base : Nat} {v : Value} {l : List Int} {a b : Int} (h : w.ownsRow base 5 1 v (l.length + 2) (l.map (Value.int .u8) ++ [.int .u8 a,.int .u8 b])) : L3.OwnI w base v (l ++ [a,b]):=by
 unfold L3.OwnI
 rw [List.length_append,List.map_append]
 exact h
theorem own_form3 {w : World} {base : Nat} {v : Value} {l : List Int} (h : L3.OwnI w base v l) : ∃ a k c,v = .slice a k c:=by
 obtain ⟨a,c,h2⟩:=L3.own_form h
 exact ⟨a,_,c,h2⟩
theorem news_two (w : World) (a b : Value) (T : TypeId) : ∀ j u,[a,b][j]? = some u → (w.alloc (.cells #[a,b] T)).cell? ((⟨w.heap.size,0,none⟩ : Addr).add j) = some u:=by
 intro j u hj
 rw [Go.WideShapes.add_plain,Nat.zero_add,(L3.BX.new w #[a,b] T).cell]
 simpa using hj
set_option maxHeartbeats 2000000 in
theorem wu2_any (base : Nat) (v : Value) (l ns : List Int) (nb cap : Nat) (w : World) (ho : L3.OwnI w base v l) (hb : base ≤ w.heap.size) (hn : nb < w.heap.size) (hne : ∀ k,v.ownBlock = some k → k ≠ nb)
  (hc : ∀ j n,ns[j]? = some n → w.cell? ⟨nb,j,none⟩ = some (.int .i64 n)) (hl : l.length + 2 * ns.length ≤ 140737488355328) :
  Calls Tryz.prog 90 #[v,.slice (some ⟨nb,0,none⟩) ns.length cap] w fun e w'=>∃ v',e = .returned v' ∧ L3.OwnI w' base v' (l ++ ns.flatMap Cf.w2) ∧ Kit.Grows w w' v v':=by
 obtain ⟨i0,hi,hz0,hz1,hz2⟩:=info_parts infoB
 have HC:=hid hc
 have HO0:=hid ho
 have HNe:=hid hne
 obtain ⟨a0,cp0,rfl⟩:=L3.own_form ho
 clear hc ho hne
 go_enter Tryz.func90,Tryz.ntmps90
 go_wp2
 go_loopw [0,9] (fun u i wr=>∃ j : Nat,i = .int .i64 j ∧ j ≤ ns.length ∧ L3.OwnI wr base u (l ++ (ns.take j).flatMap Cf.w2) ∧ Kit.Grows w wr (.slice a0 l.length cp0) u) (fun _ i _=>ns.length - (intOf i).toNat)
 case atStart=>exact ⟨0,rfl,by omega,by simpa using HO0.out,Kit.Grows.refl _ _⟩
 case round =>
  obtain ⟨j,rfl,hj,HO,HG⟩:=hrel
  have hz:=HG.size
  by_cases hlt : j < ns.length
  ·obtain ⟨n,hx⟩ : ∃ x,ns[j]? = some x:=⟨ns[j],List.getElem?_eq_getElem hlt⟩
   have c0 : wr.cell? ⟨nb,j,none⟩ = some (.int .i64 n):=by rw [HG.cell hn HNe.out];exact HC.out j n hx
   have hji : (j : Int) < (ns.length : Int):=by omega
   have HX:=hid hx
   have HLn:=hid (show (l ++ (ns.take j).flatMap Cf.w2).length = l.length + 2 * j by rw [List.length_append,w2s_len,List.length_take];omega)
   obtain ⟨L,hL⟩ : ∃ L,L = l ++ (ns.take j).flatMap Cf.w2:=⟨_,rfl⟩
   rw [← hL] at HO HLn
   have HLe:=hid hL
   obtain ⟨a1,cp1,rfl⟩:=L3.own_form HO
   have HLs:=hid (show L.length + 2 ≤ 140737488355328 by have:=HLn.out;omega)
   clear hx hL
   go_wp2_with (at_builtin;refine wpList_append_own_at _ rfl (.tmp 13) (.tmp 19) 22 rfl base 5 i0 _ 1 1 Tryz.underlying22 hi hz0 hz1 hz2 rfl (by decide) _ _ _ rfl (World.ownsRow.alloc HO _) ⟨wr.heap.size,0,none⟩ 2 2 [.int .u8 (n / 256 % 256),.int .u8 (n % 256)] rfl rfl (news_two _ _ _ _) (by (intro u hu;simp at hu;rcases hu with rfl|rfl <;> rfl)) (by (have:=HLs.out;unfold maxLen;omega)) (by (have:=HLs.out;omega)) (by simp only [World.size_alloc];omega) ?_;intro v1 w1 ho1' hg1 _ hk1;have ho1:=own2 ho1';have G1:=Kit.grows_append ((Below.refl wr.heap.size wr).alloc (Nat.le_refl _) _) hg1 hk1;clear ho1' hg1 hk1)
   go_roundw
   case rel =>
    refine ⟨j + 1,by go_num,by omega,?_,HG.trans G1⟩
    rw [List.take_add_one,HX.out,Option.toList_some,List.flatMap_append,← List.append_assoc,← HLe.out]
    simpa [Cf.w2] using ho1
   case measure=>simp [intOf];omega
  ·obtain rfl : j = ns.length:=by omega
   rw [List.take_length] at HO
   obtain ⟨a1,cp1,hv1⟩:=L3.own_form HO
   subst hv1
   go_wp2
   go_ret
   exact ⟨_,rfl,HO,HG⟩
set_option maxHeartbeats 1000000 in
theorem wu4_any (base : Nat) (v : Value) (l : List Int) (n : Int) (w : World) (ho : L3.OwnI w base v l) (hb : base ≤ w.heap.size) (h0 : ∀ k,v.ownBlock = some k → k < w.heap.size) (hl : l.length + 4 ≤ 140737488355328) :
  Calls Tryz.prog 89 #[v,.int .i64 n] w fun e w'=>∃ v',e = .returned v' ∧ L3.OwnI w' base v' (l ++ Cf.w4 n) ∧ Kit.Grows w w' v v':=by
 have HU:=hid (wu2_any base v l [n / 65536,n] w.heap.size 2 (w.alloc (.cells #[.int .i64 (n / 65536),.int .i64 n] 3)) (World.ownsRow.alloc ho _) (by simp;omega) (by simp) (fun k hk=>by have:=h0 k hk;omega)
  (fun j x hx=>by
   rw [(L3.BX.new w #[.int .i64 (n / 65536),.int .i64 n] 3).cell]
   match j,hx with
   | 0,hx=>simp at hx;subst hx;rfl
   | 1,hx=>simp at hx;subst hx;rfl) (by simpa using hl))
 obtain ⟨a0,cp0,rfl⟩:=L3.own_form ho
 clear ho
 go_enter Tryz.func89,Tryz.ntmps89
 go_wp2_with (go_at_call 90;refine HU.out.mono ?_;rintro e w1 ⟨v1,rfl,o1,g1⟩;obtain ⟨a1,k1,cp1,rfl⟩:=own_form3 o1)
 go_ret
 exact ⟨_,rfl,by simpa [Cf.w4] using o1,((Kit.Grows.refl w _).below ((Below.refl _ _).alloc (Nat.le_refl _) _)).trans g1⟩
end Go.Proofs.YtnojgiflgmnjlaaGreatDoor
namespace Go.Proofs.YtnojgiflgmnjlaaGreatDoor
open Go.RowKit
def Wr (w0 w : World) (v : Value) (l : List Int) : Prop:=L3.OwnI w w0.heap.size v l ∧ Below w0.heap.size w0 w
theorem Wr.grow {w0 w w' : World} {v v' : Value} {l l' : List Int} (h : Wr w0 w v l) (ho : L3.OwnI w' w0.heap.size v' l') (hg : Kit.Grows w w' v v') : Wr w0 w' v' l':=⟨ho,hg.to_below h.2 h.2.size (Kit.own_base h.1)⟩
theorem Wr.alloc {w0 w : World} {v : Value} {l : List Int} (h : Wr w0 w v l) (o : Obj) : Wr w0 (w.alloc o) v l:=⟨World.ownsRow.alloc h.1 _,h.2.alloc h.2.size _⟩
theorem Wr.below {w0 w w' : World} {v : Value} {l : List Int} (h : Wr w0 w v l) (hb : Below w.heap.size w w') : Wr w0 w' v l:=⟨Kit.owns_below h.1 hb (Nat.le_refl _),belows h.2 hb h.2.size⟩
theorem Wr.form {w0 w : World} {v : Value} {l : List Int} (h : Wr w0 w v l) : ∃ a cap,v = .slice a l.length cap:=L3.own_form h.1
theorem Wr.nil (w0 w : World) (h : Below w0.heap.size w0 w) : Wr w0 w (.slice none 0 0) []:=⟨L3.nilI _ _,h⟩
def WP (w0 w : World) (v : Value) (l' : List Int) (e : Ending) (w' : World) : Prop:=∃ v',e = .returned v' ∧ Wr w0 w' v' l' ∧ Kit.Grows w w' v v'
theorem grows_owns {w w' : World} {v v' u : Value} {base n size : Nat} {e : TypeId} {xs : List Value} (hg : Kit.Grows w w' v v') (hu : w.ownsRow base e size u n xs) (hne : ∀ k,u.ownBlock = some k → v.ownBlock ≠ some k) : w'.ownsRow base e size u n xs ∧ ∀ k,u.ownBlock = some k → v'.ownBlock ≠ some k:=by
 refine ⟨⟨hu.1,?_⟩,fun k hk e=>?_⟩
 ·rcases hu.2 with h|⟨g,cap,cur,rfl,hge,hh,r⟩
  ·exact .inl h
  ·exact .inr ⟨g,cap,cur,rfl,hge,(hg.grown.block g (Array.getElem?_eq_some_iff.1 hh).1 (fun e=>hne g rfl e.symm)).trans hh,r⟩
 ·have hlt:=Kit.own_lt hu k hk
  rcases hg.blk with e2|⟨j,hj,e2⟩
  ·rw [e2] at e;exact hne k hk e
  ·rw [e2] at e;have:=Option.some.inj e;omega
theorem wu2_lit (w0 : World) (v : Value) (l ns : List Int) (vals : Array Value) (T : TypeId) (cap : Nat) (W0 : World) (h : Wr w0 W0 v l) (hv : vals.toList = ns.map (Value.int .i64)) (hl : l.length + 2 * ns.length ≤ 140737488355328) :
  Calls Tryz.prog 90 #[v,.slice (some ⟨W0.heap.size,0,none⟩) ns.length cap] (W0.alloc (.cells vals T)) (WP w0 W0 v (l ++ ns.flatMap Cf.w2)):=by
 refine (wu2_any w0.heap.size v l ns W0.heap.size cap (W0.alloc (.cells vals T)) (World.ownsRow.alloc h.1 _) (by have:=h.2.size;rw [World.size_alloc];omega) (by rw [World.size_alloc];omega) (fun k hk=>by have:=Kit.own_lt h.1 k hk;omega) (fun j n hj=>?_) hl).mono ?_
 ·rw [(L3.BX.new W0 vals T).cell,← Array.getElem?_toList,hv,List.getElem?_map,hj]
  rfl
 ·rintro e w' ⟨v',rfl,h1,h2⟩
  have hG : Kit.Grows W0 w' v v':=((Kit.Grows.refl W0 v).below ((Below.refl _ _).alloc (Nat.le_refl _) _)).trans h2
  exact ⟨v',rfl,h.grow h1 hG,hG⟩
theorem wu4_wr (w0 : World) (v : Value) (l : List Int) (n : Int) (w : World) (h : Wr w0 w v l) (hl : l.length + 4 ≤ 140737488355328) :
  Calls Tryz.prog 89 #[v,.int .i64 n] w (WP w0 w v (l ++ Cf.w4 n)):=by
 refine (wu4_any w0.heap.size v l n w h.1 h.2.size (fun k hk=>Kit.own_lt h.1 k hk) hl).mono ?_
 rintro e w' ⟨v',rfl,h1,h2⟩
 exact ⟨v',rfl,h.grow h1 h2,h2⟩
theorem wf_lit (w0 : World) (v : Value) (l : List Int) (m : Cf.Mb) (cv hv : Value) (w : World) (h : Wr w0 w v l) (hl : l.length + 8 ≤ 140737488355328) :
  Calls Tryz.prog 90 #[v,.slice (some ⟨w.heap.size + 1,0,none⟩) 4 4] ((w.alloc (.cells #[.int .i64 m.ac,.int .i64 m.nm,.int .i64 m.ds,.int .i64 m.st,.int .i64 m.lc,cv,hv] 42)).alloc (.cells #[.int .i64 m.ac,.int .i64 m.nm,.int .i64 m.ds,.int .i64 0] 3)) (WP w0 (w.alloc (.cells #[.int .i64 m.ac,.int .i64 m.nm,.int .i64 m.ds,.int .i64 m.st,.int .i64 m.lc,cv,hv] 42)) v (l ++ Cf.fdB m)):=by
 have H:=wu2_lit w0 v l [m.ac,m.nm,m.ds,0] #[.int .i64 m.ac,.int .i64 m.nm,.int .i64 m.ds,.int .i64 0] 3 4 (w.alloc (.cells #[.int .i64 m.ac,.int .i64 m.nm,.int .i64 m.ds,.int .i64 m.st,.int .i64 m.lc,cv,hv] 42)) (h.alloc _) rfl hl
 rw [World.size_alloc] at H
 have e : [m.ac,m.nm,m.ds,0].flatMap Cf.w2 = Cf.fdB m:=rfl
 rw [e] at H
 exact H
theorem wh_lit (w0 : World) (v : Value) (l : List Int) (x : Cf.Hn) (w : World) (h : Wr w0 w v l) (hl : l.length + 8 ≤ 140737488355328) :
  Calls Tryz.prog 90 #[v,.slice (some ⟨w.heap.size + 1,0,none⟩) 4 4] ((w.alloc (.cells #[.int .i64 x.f,.int .i64 x.t,.int .i64 x.a,.int .i64 x.y] 58)).alloc (.cells #[.int .i64 x.f,.int .i64 x.t,.int .i64 x.a,.int .i64 x.y] 3)) (WP w0 (w.alloc (.cells #[.int .i64 x.f,.int .i64 x.t,.int .i64 x.a,.int .i64 x.y] 58)) v (l ++ Cf.hnB x)):=by
 have H:=wu2_lit w0 v l [x.f,x.t,x.a,x.y] #[.int .i64 x.f,.int .i64 x.t,.int .i64 x.a,.int .i64 x.y] 3 4 (w.alloc (.cells #[.int .i64 x.f,.int .i64 x.t,.int .i64 x.a,.int .i64 x.y] 58)) (h.alloc _) rfl hl
 rw [World.size_alloc] at H
 have e : [x.f,x.t,x.a,x.y].flatMap Cf.w2 = Cf.hnB x:=rfl
 rw [e] at H
 exact H
theorem WP.al {w0 w : World} {v : Value} {l : List Int} {o : Obj} {e : Ending} {w' : World} (h : WP w0 (w.alloc o) v l e w') : WP w0 w v l e w':=by
 obtain ⟨v',h1,h2,h3⟩:=h
 exact ⟨v',h1,h2,((Kit.Grows.refl w v).below ((Below.refl _ _).alloc (Nat.le_refl _) _)).trans h3⟩
set_option maxHeartbeats 1000000 in
theorem wfield_any (w0 : World) (v : Value) (l : List Int) (m : Cf.Mb) (cv hv : Value) (w : World) (h : Wr w0 w v l) (hl : l.length + 8 ≤ 140737488355328) (hcv : ∃ a n c,cv = .slice a n c) (hhv : ∃ a n c,hv = .slice a n c) :
  Calls Tryz.prog 92 #[v,mbV m cv hv] w (WP w0 w v (l ++ Cf.fdB m)):=by
 have HU:=hid (wf_lit w0 v l m cv hv w h hl)
 obtain ⟨a0,cp0,rfl⟩:=h.form
 obtain ⟨xa,xn,xc,rfl⟩:=hcv
 obtain ⟨ya,yn,yc,rfl⟩:=hhv
 unfold mbV
 clear h hl
 go_enter Tryz.func92,Tryz.ntmps92
 go_wp2_with (go_at_call 90;refine HU.out.mono ?_;rintro e w1 ⟨v1,rfl,h1,g1⟩;obtain ⟨a1,k1,cp1,rfl⟩:=own_form3 h1.1)
 go_ret
 exact WP.al ⟨_,rfl,h1,g1⟩
set_option maxHeartbeats 1000000 in
theorem whandler_any (w0 : World) (v : Value) (l : List Int) (x : Cf.Hn) (w : World) (h : Wr w0 w v l) (hl : l.length + 8 ≤ 140737488355328) :
  Calls Tryz.prog 146 #[v,hnV x] w (WP w0 w v (l ++ Cf.hnB x)):=by
 have HU:=hid (wh_lit w0 v l x w h hl)
 obtain ⟨a0,cp0,rfl⟩:=h.form
 unfold hnV
 clear h hl
 go_enter Tryz.func146,Tryz.ntmps146
 go_wp2_with (go_at_call 90;refine HU.out.mono ?_;rintro e w1 ⟨v1,rfl,h1,g1⟩;obtain ⟨a1,k1,cp1,rfl⟩:=own_form3 h1.1)
 go_ret
 exact WP.al ⟨_,rfl,h1,g1⟩
end Go.Proofs.YtnojgiflgmnjlaaGreatDoor
namespace Go.Proofs.YtnojgiflgmnjlaaGreatDoor
open Go.RowKit
namespace Cf
def U2 (n : Int) : Prop:=0 ≤ n ∧ n < 65536
theorem u2_low (n : Int) (r : List UInt8) : u2 (L3.bsOf (w2 n) ++ r) = .ok (n % 65536,r):=by
 show Except.ok (((UInt8.ofNat (n / 256 % 256).toNat).toNat : Int) * 256 + ((UInt8.ofNat (n % 256).toNat).toNat : Int),r) = _
 rw [L3.u8_val (by omega),L3.u8_val (by omega)]
 have e : n / 256 % 256 * 256 + n % 256 = n % 65536:=by omega
 rw [e]
theorem u2_back {n : Int} (h : U2 n) (r : List UInt8) : u2 (L3.bsOf (w2 n) ++ r) = .ok (n,r):=by
 rw [u2_low]
 unfold U2 at h
 have e : n % 65536 = n:=by omega
 rw [e]
theorem u4_back {n : Int} (h : 0 ≤ n ∧ n < 4294967296) (r : List UInt8) : u4 (L3.bsOf (w4 n) ++ r) = .ok (n,r):=by
 unfold u4 w4
 rw [L3.bsOf_app,List.append_assoc,bnd_ok (u2_low _ _),bnd_ok (u2_low _ _)]
 have e : n / 65536 % 65536 * 65536 + n % 65536 = n:=by omega
 unfold ret
 rw [e]
theorem none_back (r : List UInt8) : noneP (L3.bsOf (w2 0) ++ r) = .ok ((),r):=by
 unfold noneP
 rw [bnd_ok (u2_low _ _)]
 rfl
theorem take_back (a r : List UInt8) : takeP a.length (a ++ r) = .ok (a,r):=by
 unfold takeP
 rw [if_pos (by simp),List.take_left,List.drop_left]
theorem listP_back {α : Type} {p : Ps α} {f : α → List Int} : ∀ (xs : List α),(∀ x ∈ xs,∀ r,p (L3.bsOf (f x) ++ r) = .ok (x,r)) → ∀ r,listP p xs.length (L3.bsOf (xs.flatMap f) ++ r) = .ok (xs,r)
 | [],_,r=>rfl
 | x :: xs,h,r=>by
  show bnd p (fun a=>bnd (listP p xs.length) fun l=>ret (a :: l)) (L3.bsOf ((x :: xs).flatMap f) ++ r) = _
  rw [List.flatMap_cons,L3.bsOf_app,List.append_assoc,bnd_ok (h x (by simp) _),bnd_ok (listP_back xs (fun y hy=>h y (List.mem_cons_of_mem _ hy)) r)]
  rfl
theorem listN_back {α : Type} {p : Ps α} {f : α → List Int} (xs : List α) (hl : xs.length < 65536) (h : ∀ x ∈ xs,∀ r,p (L3.bsOf (f x) ++ r) = .ok (x,r)) (r : List UInt8) :
  listN p (L3.bsOf (w2 xs.length) ++ (L3.bsOf (xs.flatMap f) ++ r)) = .ok (xs,r):=by
 unfold listN
 rw [bnd_ok (u2_back ⟨by omega,by omega⟩ _),Int.toNat_natCast]
 exact listP_back xs h r
def HnU (h : Hn) : Prop:=U2 h.f ∧ U2 h.t ∧ U2 h.a ∧ U2 h.y
theorem hn_back {h : Hn} (hu : HnU h) (r : List UInt8) : hnP (L3.bsOf (hnB h) ++ r) = .ok (h,r):=by
 obtain ⟨h1,h2,h3,h4⟩:=hu
 unfold hnP hnB
 simp only [L3.bsOf_app,List.append_assoc]
 rw [bnd_ok (u2_back h1 _),bnd_ok (u2_back h2 _),bnd_ok (u2_back h3 _),bnd_ok (u2_back h4 _)]
 rfl
def MbU (m : Mb) : Prop:=U2 m.ac ∧ U2 m.nm ∧ U2 m.ds ∧ U2 m.st ∧ U2 m.lc ∧ m.code.length < 65536 ∧ m.hs.length < 65536 ∧ ∀ h ∈ m.hs,HnU h
theorem mb_back {m : Mb} (hu : MbU m) (r : List UInt8) : mbP (L3.bsOf (w2 m.ac) ++ (L3.bsOf (w2 m.nm) ++ (L3.bsOf (w2 m.ds) ++ r))) = .ok (⟨m.ac,m.nm,m.ds,0,0,[],[]⟩,r):=by
 obtain ⟨h1,h2,h3,-⟩:=hu
 unfold mbP
 rw [bnd_ok (u2_back h1 _),bnd_ok (u2_back h2 _),bnd_ok (u2_back h3 _)]
 rfl
theorem fd_back {m : Mb} (hu : MbU m) (hp : plainM m = true) (r : List UInt8) : fdP (L3.bsOf (fdB m) ++ r) = .ok (m,r):=by
 unfold fdP fdB
 simp only [L3.bsOf_app,List.append_assoc]
 rw [bnd_ok (mb_back hu _),bnd_ok (none_back _)]
 unfold plainM at hp
 obtain ⟨h1,h2,h3,h4⟩:=of_decide_eq_true hp
 obtain ⟨ac,nm,ds,st,lc,code,hs⟩:=m
 dsimp only at h1 h2 h3 h4
 obtain rfl:=List.length_eq_zero_iff.1 h3
 obtain rfl:=List.length_eq_zero_iff.1 h4
 subst h1 h2
 rfl
theorem attr_len (m : Mb) : (attrB m).length = 12 + m.code.length + 8 * m.hs.length:=by
 have h : ∀ l : List Hn,(l.flatMap hnB).length = 8 * l.length:=by
  intro l
  induction l with
  | nil=>rfl
  | cons a l ih=>rw [List.flatMap_cons,List.length_append,ih,List.length_cons];show 8 + _ = _;omega
 unfold attrB
 simp only [List.length_append,w2_len,w4_len,h]
 unfold cB
 rw [List.length_map]
 omega
theorem body_back {m : Mb} (hu : MbU m) (r : List UInt8) : bodyP ⟨m.ac,m.nm,m.ds,0,0,[],[]⟩ (L3.bsOf (attrB m) ++ r) = .ok (m,r):=by
 obtain ⟨-,-,-,h4,h5,h6,h7,h8⟩:=hu
 unfold bodyP attrB
 simp only [L3.bsOf_app,List.append_assoc]
 unfold cB
 rw [bnd_ok (u2_back h4 _),bnd_ok (u2_back h5 _),bnd_ok (u4_back ⟨by omega,by omega⟩ _),L3.bsOf_text,Int.toNat_natCast,bnd_ok (take_back _ _),bnd_ok (listN_back _ h7 (fun x hx r=>hn_back (h8 x hx) r) _),bnd_ok (none_back _)]
 rfl
theorem sized_back {m : Mb} (hu : MbU m) (r : List UInt8) : sizedP ((attrB m).length : Int) ⟨m.ac,m.nm,m.ds,0,0,[],[]⟩ (L3.bsOf (attrB m) ++ r) = .ok (m,r):=by
 unfold sizedP
 rw [body_back hu]
 dsimp only
 rw [if_pos (by rw [List.length_append,L3.bsOf_len];omega)]
theorem me_back {m : Mb} (hu : MbU m) {code : Nat} (hc : 1 ≤ code ∧ code < 65536) (r : List UInt8) : meP code (L3.bsOf (meB code m) ++ r) = .ok (m,r):=by
 have hal:=attr_len m
 have h6:=hu.2.2.2.2.2.1
 have h7:=hu.2.2.2.2.2.2.1
 unfold meP meB
 simp only [L3.bsOf_app,List.append_assoc]
 rw [bnd_ok (mb_back hu _),bnd_ok (u2_back ⟨by omega,by omega⟩ _)]
 have e1 : ∀ l : List UInt8,want ((1 : Int) == 1) 43 l = .ok ((),l):=fun l=>rfl
 have e2 : ∀ l : List UInt8,want (decide ((code : Int) = code ∧ (code : Int) ≠ 0)) 43 l = .ok ((),l):=fun l=>by
  unfold want
  rw [if_pos (decide_eq_true ⟨rfl,by omega⟩)]
 rw [bnd_ok (e1 _),bnd_ok (u2_back ⟨by omega,by omega⟩ _),bnd_ok (e2 _),bnd_ok (u4_back ⟨by omega,by omega⟩ _)]
 exact sized_back hu r
structure ClU (c : Cl) : Prop where
 ver : verB c.mi c.ma = true
 ac : U2 c.ac
 th : U2 c.th
 su : U2 c.su
 ck : L3.CkIs c.pool 0
 n6 : ∀ x ∈ c.pool,L3.I6 x.n
 nf : c.fs.length < 65536
 nm : c.ms.length < 65536
 fs : ∀ m ∈ c.fs,MbU m ∧ plainM m = true
 ms : ∀ m ∈ c.ms,MbU m
 cx : cix c.pool < 65536
 c1 : c.ms ≠ [] → 1 ≤ cix c.pool
theorem cl_back {c : Cl} (h : ClU c) : clP (L3.bsOf (clB c)) = .ok (c,[]):=by
 obtain ⟨hv,hac,hth,hsu,hck,hn6,hnf,hnm,hfs,hms,hcx,hc1⟩:=h
 have hver:=hv
 unfold verB at hver
 obtain ⟨v1,v2,v3⟩:=of_decide_eq_true hver
 have hmi : U2 c.mi:=⟨by omega,by omega⟩
 have hma : U2 c.ma:=⟨by omega,by omega⟩
 rw [← List.append_nil (L3.bsOf (clB c))]
 unfold clP clB
 simp only [L3.bsOf_app,List.append_assoc]
 have e1 : ∀ l : List UInt8,want ((3405691582 : Int) == 3405691582) 40 l = .ok ((),l):=fun l=>rfl
 have e2 : ∀ l : List UInt8,want (verB c.mi c.ma) 41 l = .ok ((),l):=fun l=>by rw [hv];rfl
 have e3 : ∀ r : List UInt8,poolP (L3.bsOf (L3.putB c.pool) ++ r) = .ok (c.pool,r):=fun r=>L3.pl_back hck hn6 r
 have e4 : ∀ r : List UInt8,listN (meP (cix c.pool)) (L3.bsOf (w2 c.ms.length) ++ (L3.bsOf (c.ms.flatMap (meB (cix c.pool))) ++ r)) = .ok (c.ms,r):=fun r =>
  listN_back _ hnm (fun x hx r=>me_back (hms x hx) ⟨hc1 (fun e=>by rw [e] at hx;cases hx),hcx⟩ r) r
 rw [bnd_ok (u4_back ⟨by omega,by omega⟩ _),bnd_ok (e1 _),bnd_ok (u2_back hmi _),bnd_ok (u2_back hma _),bnd_ok (e2 _),bnd_ok (e3 _),bnd_ok (u2_back hac _),bnd_ok (u2_back hth _),bnd_ok (u2_back hsu _),bnd_ok (none_back _),
  bnd_ok (listN_back _ hnf (fun x hx r=>fd_back (hfs x hx).1 (hfs x hx).2 r) _),bnd_ok (e4 _),bnd_ok (none_back _)]
 rfl
end Cf
end Go.Proofs.YtnojgiflgmnjlaaGreatDoor
namespace Go.Proofs.YtnojgiflgmnjlaaGreatDoor
open Go.RowKit
theorem wu2_k (w0 : World) (v : Value) (l ns : List Int) (vals : Array Value) (T : TypeId) (k cap b : Nat) (W0 : World) (h : Wr w0 W0 v l) (hv : vals.toList = ns.map (Value.int .i64)) (hl : l.length + 2 * k ≤ 140737488355328) (hk : ns.length = k) (hb : b = W0.heap.size) :
  Calls Tryz.prog 90 #[v,.slice (some ⟨b,0,none⟩) k cap] (W0.alloc (.cells vals T)) (WP w0 W0 v (l ++ ns.flatMap Cf.w2)):=by
 subst hk hb
 exact wu2_lit w0 v l ns vals T cap W0 h hv hl
theorem w2_one (n : Int) : [n].flatMap Cf.w2 = Cf.w2 n:=rfl
theorem take_flat {α β : Type} {f : α → List β} {l : List α} {k : Nat} {x : α} (h : l[k]? = some x) : (l.take (k + 1)).flatMap f = (l.take k).flatMap f ++ f x:=by
 rw [List.take_add_one,h,List.flatMap_append]
 simp
theorem hns_len : ∀ l : List Cf.Hn,(l.flatMap Cf.hnB).length = 8 * l.length
 | []=>rfl
 | a :: l=>by rw [List.flatMap_cons,List.length_append,hns_len l,List.length_cons];show 8 + _ = _;omega
theorem fds_len : ∀ l : List Cf.Mb,(l.flatMap Cf.fdB).length = 8 * l.length
 | []=>rfl
 | a :: l=>by rw [List.flatMap_cons,List.length_append,fds_len l,List.length_cons];show 8 + _ = _;omega
theorem grows_al {w w' : World} {v v' : Value} {o : Obj} (h : Kit.Grows (w.alloc o) w' v v') : Kit.Grows w w' v v':=((Kit.Grows.refl w v).below ((Below.refl _ _).alloc (Nat.le_refl _) _)).trans h
def whFn : Value:=.func (.func 146) #[] #[]
set_option maxHeartbeats 1000000 in
theorem whs_any (w0 : World) (v : Value) (l : List Int) (hs : List Cf.Hn) (hv : Value) (w : World) (h : Wr w0 w v l) (hS : Kit.IsS 4 w0 hv hs.length (hs.flatMap hL)) (hl : l.length + 2 + 8 * hs.length ≤ 140737488355328) :
  Calls Tryz.prog 145 #[v,hv,whFn] w (WP w0 w v (l ++ Cf.w2 hs.length ++ hs.flatMap Cf.hnB)):=by
 have HW:=hid h
 have HS:=hid hS
 have HL:=hid hl
 have HH:=hid (fun (v : Value) (l : List Int) (x : Cf.Hn) (w : World) h hl=>whandler_any w0 v l x w h hl)
 obtain ⟨a0,cp0,rfl⟩:=h.form
 obtain ⟨ha,hc,rfl⟩:=hS.len
 unfold whFn
 unfold hnV at HH
 have hhl:=hS.2.1
 clear h hS hl
 go_enter Tryz.func145,Tryz.ntmps145
 go_wp2_with (go_at_call 90;refine (wu2_k w0 _ _ [(hs.length : Int)] _ _ 1 1 _ _ HW.out rfl (by have:=HL.out;omega) rfl rfl).mono ?_;rintro e w1 ⟨v1,rfl,h1,g1⟩;rw [w2_one] at h1;have H1:=hid h1;have G1:=hid g1;obtain ⟨a1,k1,cp1,rfl⟩:=own_form3 h1.1;clear h1 g1)
 go_loopw [0,16] (fun u i wr=>∃ k : Nat,k ≤ hs.length ∧ i = .int .i64 k ∧ Hid (Wr w0 wr u (l ++ Cf.w2 hs.length ++ (hs.take k).flatMap Cf.hnB)) ∧ Hid (Kit.Grows w wr (.slice a0 l.length cp0) u)) (fun _ i _=>hs.length - (intOf i).toNat)
 case atStart=>exact ⟨0,by omega,rfl,hid (by simpa using H1.out),G1⟩
 case round =>
  obtain ⟨k,hk,rfl,HR,HG⟩:=hrel
  obtain ⟨a2,k2,cp2,rfl⟩:=own_form3 HR.out.1
  by_cases hlt : k < hs.length
  ·obtain ⟨x,hx⟩ : ∃ x,hs[k]? = some x:=⟨hs[k],List.getElem?_eq_getElem hlt⟩
   obtain ⟨b,o,cap',hv2,hb,c0,c1,c2,c3⟩:=h_at (HS.out.below HR.out.2 (Nat.le_refl _)) hx
   obtain ⟨rfl,-,rfl⟩:=Value.slice.inj hv2
   have HX:=hid hx
   have hki : (k : Int) < (hs.length : Int):=by omega
   have HLn:=hid (show (l ++ Cf.w2 hs.length ++ (hs.take k).flatMap Cf.hnB).length + 8 ≤ 140737488355328 by rw [List.length_append,List.length_append,hns_len,List.length_take,Cf.w2_len];have:=HL.out;omega)
   obtain ⟨xf,xt,xa,xy⟩:=x
   dsimp only at c0 c1 c2 c3
   clear hx hv2
   go_wp2_with (go_at_call 146;refine (HH.out _ _ ⟨xf,xt,xa,xy⟩ _ (HR.out.alloc _) HLn.out).mono ?_;rintro e w2 ⟨v2,rfl,h2,g2⟩;have H2:=hid h2;have G2:=hid (grows_al (w:=wr) g2);clear h2 g2)
   go_roundw
   case rel=>exact ⟨k + 1,by omega,by go_num,hid (by rw [take_flat HX.out,← List.append_assoc];exact H2.out),hid (HG.out.trans G2.out)⟩
   case measure=>simp [intOf];omega
  ·obtain rfl : k = hs.length:=by omega
   have H9:=HR.out
   rw [List.take_length] at H9
   have H9:=hid H9
   go_wp2
   go_ret
   exact ⟨_,rfl,H9.out,HG.out⟩
def wfFn : Value:=.func (.func 92) #[] #[]
set_option maxHeartbeats 1000000 in
theorem wfs_any (w0 : World) (v : Value) (l : List Int) (fs : List Cf.Mb) (fv : Value) (w : World) (h : Wr w0 w v l) (hF : MsR w0 fv fs) (hl : l.length + 2 + 8 * fs.length ≤ 140737488355328) :
  Calls Tryz.prog 91 #[v,fv,wfFn] w (WP w0 w v (l ++ Cf.w2 fs.length ++ fs.flatMap Cf.fdB)):=by
 have HW:=hid h
 have HS:=hid hF
 have HL:=hid hl
 have HH:=hid (fun (v : Value) (l : List Int) (m : Cf.Mb) (cv hv : Value) (w : World) h hl hc hh=>wfield_any w0 v l m cv hv w h hl hc hh)
 obtain ⟨a0,cp0,rfl⟩:=h.form
 obtain ⟨ha,hc,rfl⟩:=hF.len
 unfold wfFn
 unfold mbV at HH
 have hhl:=hF.size
 clear h hF hl
 go_enter Tryz.func91,Tryz.ntmps91
 go_wp2_with (go_at_call 90;refine (wu2_k w0 _ _ [(fs.length : Int)] _ _ 1 1 _ _ HW.out rfl (by have:=HL.out;omega) rfl rfl).mono ?_;rintro e w1 ⟨v1,rfl,h1,g1⟩;rw [w2_one] at h1;have H1:=hid h1;have G1:=hid g1;obtain ⟨a1,k1,cp1,rfl⟩:=own_form3 h1.1;clear h1 g1)
 go_loopw [0,16] (fun u i wr=>∃ k : Nat,k ≤ fs.length ∧ i = .int .i64 k ∧ Hid (Wr w0 wr u (l ++ Cf.w2 fs.length ++ (fs.take k).flatMap Cf.fdB)) ∧ Hid (Kit.Grows w wr (.slice a0 l.length cp0) u)) (fun _ i _=>fs.length - (intOf i).toNat)
 case atStart=>exact ⟨0,by omega,rfl,hid (by simpa using H1.out),G1⟩
 case round =>
  obtain ⟨k,hk,rfl,HR,HG⟩:=hrel
  obtain ⟨a2,k2,cp2,rfl⟩:=own_form3 HR.out.1
  by_cases hlt : k < fs.length
  ·obtain ⟨⟨ac,nm,ds,st,lc,co,hs9⟩,hx⟩ : ∃ x,fs[k]? = some x:=⟨fs[k],List.getElem?_eq_getElem hlt⟩
   obtain ⟨b,o,cap',cv,hw,hv2,hbb,hB,hH,hcl,c0,c1,c2,c3,c4,c5,c6⟩:=(HS.out.below HR.out.2 (Nat.le_refl _)).at hx
   obtain ⟨rfl,-,rfl⟩:=Value.slice.inj hv2
   have HX:=hid hx
   have hki : (k : Int) < (fs.length : Int):=by omega
   have HLn:=hid (show (l ++ Cf.w2 fs.length ++ (fs.take k).flatMap Cf.fdB).length + 8 ≤ 140737488355328 by rw [List.length_append,List.length_append,fds_len,List.length_take,Cf.w2_len];have:=HL.out;omega)
   dsimp only at c0 c1 c2 c3 c4 c5 c6 hB hH
   obtain ⟨xa,xc,rfl⟩:=hB.len
   obtain ⟨ya,yc,rfl⟩:=hH.len
   clear hx hv2 hB hH hcl
   go_wp2_with (go_at_call 92;refine (HH.out _ _ ⟨ac,nm,ds,st,lc,co,hs9⟩ _ _ _ (HR.out.alloc _) HLn.out ⟨_,_,_,rfl⟩ ⟨_,_,_,rfl⟩).mono ?_;rintro e w2 ⟨v2,rfl,h2,g2⟩;have H2:=hid h2;have G2:=hid (grows_al (w:=wr) g2);clear h2 g2)
   go_roundw
   case rel=>exact ⟨k + 1,by omega,by go_num,hid (by rw [take_flat HX.out,← List.append_assoc];exact H2.out),hid (HG.out.trans G2.out)⟩
   case measure=>simp [intOf];omega
  ·obtain rfl : k = fs.length:=by omega
   have H9:=HR.out
   rw [List.take_length] at H9
   have H9:=hid H9
   go_wp2
   go_ret
   exact ⟨_,rfl,H9.out,HG.out⟩
end Go.Proofs.YtnojgiflgmnjlaaGreatDoor
namespace Go.Proofs.YtnojgiflgmnjlaaGreatDoor
open Go.RowKit
theorem own_app {w : World} {base k : Nat} {v : Value} {l ns : List Int} {news : List Value} (hn : news = ns.map (Value.int .u8)) (hk : k = ns.length) (h : w.ownsRow base 5 1 v (l.length + k) (l.map (Value.int .u8) ++ news)) : L3.OwnI w base v (l ++ ns):=by
 subst hn hk
 unfold L3.OwnI
 rw [List.length_append,List.map_append]
 exact h
theorem cB_vals (l : List UInt8) : l.map L3.bv = (Cf.cB l).map (Value.int .u8):=by
 unfold Cf.cB
 rw [List.map_map]
 rfl
theorem ones_i (l : List Int) : ∀ u ∈ l.map (Value.int .u8),u.oneCell' = true:=by
 intro u hu
 rw [List.mem_map] at hu
 obtain ⟨z,-,rfl⟩:=hu
 rfl
theorem bs_some {lim : Nat} {w : World} {v : Value} {bs : List UInt8} (h : L3.Bs lim w v bs) (hn : 0 < bs.length) : ∃ b o cap,v = .slice (some ⟨b,o,none⟩) bs.length cap ∧ b < lim ∧ ∀ j u,(bs.map L3.bv)[j]? = some u → w.cell? ⟨b,o + j,none⟩ = some u:=by
 rcases h.2 with ⟨rfl,-⟩|⟨b,o,cap,rfl,-,hb,hc⟩
 ·simp at hn
 ·refine ⟨b,o,cap,rfl,hb,fun j u hj=>?_⟩
  rw [List.getElem?_map,Option.map_eq_some_iff] at hj
  obtain ⟨c,hc2,rfl⟩:=hj
  exact hc j c hc2
theorem own_some {w : World} {base : Nat} {v : Value} {l : List Int} (h : L3.OwnI w base v l) (hn : 0 < l.length) : ∃ g cap,v = .slice (some ⟨g,0,none⟩) l.length cap ∧ g < w.heap.size ∧ ∀ j u,(l.map (Value.int .u8))[j]? = some u → w.cell? ((⟨g,0,none⟩ : Addr).add j) = some u:=by
 rcases h.2 with ⟨rfl,h2⟩|⟨g,cap,cur,rfl,hg,hh,-⟩
 ·omega
 ·exact ⟨g,cap,rfl,(Array.getElem?_eq_some_iff.1 hh).1,fun j u hj=>h.cells (g:=g) rfl j u hj⟩
theorem add_at (b o j : Nat) : (⟨b,o,none⟩ : Addr).add j = ⟨b,o + j,none⟩:=Go.WideShapes.add_plain b o j
theorem attr_parts (m : Cf.Mb) : ([] ++ [m.st,m.lc].flatMap Cf.w2 ++ Cf.w4 m.code.length ++ Cf.cB m.code ++ Cf.w2 m.hs.length ++ m.hs.flatMap Cf.hnB) ++ [0].flatMap Cf.w2 = Cf.attrB m:=by
 unfold Cf.attrB
 simp [List.append_assoc]
theorem me_parts (l : List Int) (code : Nat) (m : Cf.Mb) : l ++ [m.ac,m.nm,m.ds,1,(code : Int)].flatMap Cf.w2 ++ Cf.w4 (Cf.attrB m).length ++ Cf.attrB m = l ++ Cf.meB code m:=by
 unfold Cf.meB
 simp [List.append_assoc]
def WPo (w0 w : World) (v : Value) (l' : List Int) (e : Ending) (w' : World) : Prop:=∃ v' L,e = .returned v' ∧ Wr w0 w' v' L ∧ Hid (L = l') ∧ Kit.Grows w w' v v'
theorem wpo {f : FuncId} {args : Array Value} {w0 w wv : World} {v : Value} {l' : List Int} (h : Calls Tryz.prog f args wv (WP w0 w v l')) : Calls Tryz.prog f args wv (WPo w0 w v l') :=
 h.mono fun _ _ ⟨v',h1,h2,h3⟩=>⟨v',l',h1,h2,rfl,h3⟩
theorem Wr.opq {w0 w : World} {v : Value} {l : List Int} (h : Wr w0 w v l) : ∃ L,Hid (L = l) ∧ Wr w0 w v L:=⟨l,rfl,h⟩
set_option maxHeartbeats 4000000 in
theorem wmethod_any (w0 : World) (v : Value) (l : List Int) (m : Cf.Mb) (cv hv : Value) (code : Nat) (w : World) (h : Wr w0 w v l) (hB : L3.Bs w0.heap.size w0 cv m.code) (hH : Kit.IsS 4 w0 hv m.hs.length (m.hs.flatMap hL)) (hc : 0 < m.code.length)
  (hl : l.length + 26 + m.code.length + 8 * m.hs.length ≤ 1099511627776) :
  Calls Tryz.prog 96 #[v,mbV m cv hv,.int .i64 (code : Nat)] w (WP w0 w v (l ++ Cf.meB code m)):=by
 obtain ⟨i0,hi,hz0,hz1,hz2⟩:=info_parts infoB
 obtain ⟨xb,xo,xc,rfl,hxb,hxc⟩:=bs_some hB hc
 obtain ⟨ya,yc,rfl⟩:=hH.len
 obtain ⟨va,vc,rfl⟩:=h.form
 have HW:=hid h
 have HS:=hid hH
 have HL:=hid hl
 have HXC:=hid hxc
 have HAt:=hid (Cf.attr_len m)
 have HAp:=hid (attr_parts m)
 have HMp:=hid (me_parts l code m)
 obtain ⟨AL,hAL⟩ : ∃ L,L = Cf.attrB m:=⟨_,rfl⟩
 rw [← hAL] at HAt HAp HMp
 obtain ⟨ML,hML⟩ : ∃ L,L = l ++ Cf.meB code m:=⟨_,rfl⟩
 rw [← hML] at HMp ⊢
 clear hAL hML
 obtain ⟨ac,nm,ds,st,lc,co,hs9⟩:=m
 dsimp only at HS HL HXC HAt hc HAp HMp hl
 unfold mbV
 dsimp only
 have hcl : co.length ≤ 1099511627776:=by omega
 have hhl : hs9.length ≤ 1099511627776:=by omega
 clear h hB hH hl hxc
 go_enter Tryz.func96,Tryz.ntmps96
 go_wp2_with fail
 have bX:=L3.BX.new w #[.int .i64 ac,.int .i64 nm,.int .i64 ds,.int .i64 st,.int .i64 lc,.slice (some ⟨xb,xo,none⟩) co.length xc,.slice ya hs9.length yc] 42
 have HW1:=hid (HW.out.alloc (.cells #[.int .i64 ac,.int .i64 nm,.int .i64 ds,.int .i64 st,.int .i64 lc,.slice (some ⟨xb,xo,none⟩) co.length xc,.slice ya hs9.length yc] 42))
 have hzW : (w.alloc (.cells #[.int .i64 ac,.int .i64 nm,.int .i64 ds,.int .i64 st,.int .i64 lc,.slice (some ⟨xb,xo,none⟩) co.length xc,.slice ya hs9.length yc] 42)).heap.size = w.heap.size + 1:=World.size_alloc _ _
 have G1:=hid ((Kit.Grows.refl w (.slice va l.length vc)).below ((Below.refl _ _).alloc (Nat.le_refl _) (.cells #[.int .i64 ac,.int .i64 nm,.int .i64 ds,.int .i64 st,.int .i64 lc,.slice (some ⟨xb,xo,none⟩) co.length xc,.slice ya hs9.length yc] 42)))
 obtain ⟨W1,hW1⟩ : ∃ W1,W1 = w.alloc (.cells #[.int .i64 ac,.int .i64 nm,.int .i64 ds,.int .i64 st,.int .i64 lc,.slice (some ⟨xb,xo,none⟩) co.length xc,.slice ya hs9.length yc] 42):=⟨_,rfl⟩
 rw [← hW1] at bX HW1 hzW G1 ⊢
 rw [← hzW]
 have BX:=hid bX
 have HS1:=hid (HS.out.below HW1.out.2 (Nat.le_refl _))
 clear hW1 bX
 (go_wp2_with (first|(go_at_call 90;have _g:=HA5;have HB5:=HW1.out.below HA5.out.2;refine (wpo (wu2_k w0 _ l [ac,nm,ds,1,(code : Int)] _ _ 5 5 _ _ HB5 rfl (by (have:=HL.out;omega)) rfl rfl)).mono ?_;rintro e W6 ⟨v6,L6,rfl,h6,HL6,g6⟩;have ha:=grows_owns g6 HA5.out.1 (fun k hk e9=>by (have q1:=Kit.own_base HA5.out.1 k hk;have q2:=Kit.own_lt HW1.out.1 k e9;omega));have HA6:=hid ha;have G6:=hid ((G1.out.below HA5.out.2).trans g6);have HE6:=hid (show L6.length = l.length + 10 from by (rw [HL6.out,List.length_append];rfl));obtain ⟨a6,k6,c6,rfl⟩:=own_form3 h6.1;have HB6:=hid h6;clear h6 g6 ha HB5)|(go_at_call 90;have _g:=HA4;(fail_if_success (have _g:=HA5));refine (wpo (wu2_k W1 _ _ [(0 : Int)] _ _ 1 1 _ _ HA4.out rfl (by (have:=HE4.out;omega)) rfl rfl)).mono ?_;rintro e W5 ⟨v5,L5,rfl,h5,HL5,g5⟩;have hL5 : L5 = AL:=(by (rw [HL5.out,HL4.out,HL3.out,HL2.out,HL1.out];exact HAp.out));subst hL5;obtain ⟨g,gc,rfl,hgl,-⟩:=own_some h5.1 (by (rw [HAt.out];omega));have HB9:=h5.2;have bX:=BX.out.below HB9 BX.out.sz;have m0:=bX.cell 0;have m1:=bX.cell 1;have m2:=bX.cell 2;have m5:=bX.cell 5;have m6:=bX.cell 6;simp at m0 m1 m2 m5 m6;clear bX HB9;have HA5:=hid h5;clear h5 g5 hgl)|(go_at_call 90;(fail_if_success (have _g:=HA1));refine (wpo (wu2_k W1 _ [] [st,lc] _ _ 2 2 _ _ (Wr.nil W1 W1 (Below.refl _ _)) rfl (by decide) rfl rfl)).mono ?_;rintro e Wa ⟨v1,L1,rfl,h1,HL1,g1⟩;have HE1:=hid (show L1.length = 4 from by (rw [HL1.out];rfl));obtain ⟨a1,k1,c1,rfl⟩:=own_form3 h1.1;have HB9:=h1.2;have bX:=BX.out.below HB9 BX.out.sz;have m0:=bX.cell 0;have m1:=bX.cell 1;have m2:=bX.cell 2;have m5:=bX.cell 5;have m6:=bX.cell 6;simp at m0 m1 m2 m5 m6;clear bX HB9;have HA1:=hid h1;clear h1 g1)|(go_at_call 89;have _g:=HB6;refine (wpo (wu4_wr w0 _ _ _ _ HB6.out (by (have:=HL.out;have:=HE6.out;omega)))).mono ?_;rintro e W7 ⟨v7,L7,rfl,h7,HL7,g7⟩;have ha:=grows_owns g7 HA6.out.1 HA6.out.2;have HA7:=hid ha;have G7:=hid (G6.out.trans g7);have HE7:=hid (show L7.length = l.length + 14 from by (have h9:=congrArg List.length HL7.out;rw [List.length_append,HE6.out,Cf.w4_len] at h9;omega));obtain ⟨a7,k7,c7,rfl⟩:=own_form3 h7.1;have HB7:=hid h7;clear h7 g7 ha)|(go_at_call 89;(fail_if_success (have _g:=HA2));refine (wpo (wu4_wr W1 _ _ _ _ HA1.out (by (have:=HE1.out;omega)))).mono ?_;rintro e W2 ⟨v2,L2,rfl,h2,HL2,g2⟩;have HE2:=hid (show L2.length = 8 from by (rw [HL2.out,List.length_append,HE1.out,Cf.w4_len]));obtain ⟨a2,k2,c2,rfl⟩:=own_form3 h2.1;have HB9:=h2.2;have bX:=BX.out.below HB9 BX.out.sz;have m0:=bX.cell 0;have m1:=bX.cell 1;have m2:=bX.cell 2;have m5:=bX.cell 5;have m6:=bX.cell 6;simp at m0 m1 m2 m5 m6;clear bX HB9;have HA2:=hid h2;clear h2 g2)|(go_at_call 145;refine (wpo (whs_any W1 _ _ hs9 _ _ HA3.out HS1.out (by (have:=HL.out;have:=HE3.out;omega)))).mono ?_;rintro e W4 ⟨v4,L4,rfl,h4,HL4,g4⟩;have HE4:=hid (show L4.length = 10 + co.length + 8 * hs9.length from by (rw [HL4.out,List.length_append,List.length_append,HE3.out,Cf.w2_len,hns_len];omega));obtain ⟨a4,k4,c4,rfl⟩:=own_form3 h4.1;have HB9:=h4.2;have bX:=BX.out.below HB9 BX.out.sz;have m0:=bX.cell 0;have m1:=bX.cell 1;have m2:=bX.cell 2;have m5:=bX.cell 5;have m6:=bX.cell 6;simp at m0 m1 m2 m5 m6;clear bX HB9;have HA4:=hid h4;clear h4 g4)|(at_builtin;have _g:=HB7;refine wpList_append_own_at _ rfl (.tmp 44) (.tmp 45) 22 rfl w0.heap.size 5 i0 _ 1 1 Tryz.underlying22 hi hz0 hz1 hz2 rfl (by decide) _ _ _ rfl HB7.out.1 ⟨g,0,none⟩ L5.length gc (L5.map (Value.int .u8)) rfl (by rw [List.length_map,Nat.mul_one]) (fun j u hj=>HA7.out.1.cells (g:=g) rfl j u hj) (ones_i _) (by (have:=HL.out;have:=HAt.out;have:=HE7.out;unfold maxLen;omega)) (by (have:=HL.out;have:=HAt.out;have:=HE7.out;omega)) HB7.out.2.size ?_;intro v8 W8 ho8 hg8 _ hk8;have h8:=own_app rfl rfl ho8;rw [HL7.out,HL6.out,HMp.out] at h8;have g8:=Kit.grows_append (Below.refl _ _) hg8 hk8;have G8:=hid (G7.out.trans g8);have H8:=hid (HB7.out.grow h8 g8);obtain ⟨a8,k8,c8,rfl⟩:=own_form3 h8;clear h8 g8 ho8 hg8 hk8)|(at_builtin;(fail_if_success (have _g:=HA3));refine wpList_append_own_at _ rfl (.tmp 19) (.tmp 21) 22 rfl W1.heap.size 5 i0 _ 1 1 Tryz.underlying22 hi hz0 hz1 hz2 rfl (by decide) _ _ _ rfl HA2.out.1 ⟨xb,xo,none⟩ co.length xc (co.map L3.bv) rfl (by rw [List.length_map,Nat.mul_one]) (fun j u hj=>by (rw [add_at];exact ((belows HW1.out.2 HA2.out.2 HW1.out.2.size).cell (p:=⟨xb,xo + j,none⟩) (by simpa using hxb)).trans (HXC.out j u hj))) (ones_b co) (by (have:=HE2.out;unfold maxLen;omega)) (by (have:=HE2.out;omega)) HA2.out.2.size ?_;intro v3 W3 ho3 hg3 _ hk3;obtain ⟨Lc,HL3,h3⟩:=Wr.opq (HA2.out.grow (own_app (cB_vals co) (by simp [Cf.cB]) ho3) (Kit.grows_append (Below.refl _ _) hg3 hk3));have HE3:=hid (show Lc.length = 8 + co.length from by (rw [HL3.out,List.length_append,HE2.out];simp [Cf.cB]));obtain ⟨a3,k3,c3,rfl⟩:=own_form3 h3.1;have HB9:=h3.2;have bX:=BX.out.below HB9 BX.out.sz;have m0:=bX.cell 0;have m1:=bX.cell 1;have m2:=bX.cell 2;have m5:=bX.cell 5;have m6:=bX.cell 6;simp at m0 m1 m2 m5 m6;clear bX HB9;have HA3:=hid h3;clear h3 ho3 hg3 hk3));go_ret;exact ⟨_,rfl,H8.out,G8.out⟩)
end Go.Proofs.YtnojgiflgmnjlaaGreatDoor
namespace Go.Proofs.YtnojgiflgmnjlaaGreatDoor
open Go.RowKit
namespace Cf
theorem acc_in {x : Int} {k : Nat} (hk : k < 9223372036854775808) (h6 : L3.I6 x) (h : accB (k : Int) x = false) : 0 ≤ x ∧ x ≤ k:=by
 unfold accB at h
 have h0 : bits .andNot .i64 x k = 0:=by simpa using h
 have h1 : IntKind.i64.wrap (((BitVec.ofInt 64 x &&& ~~~(BitVec.ofInt 64 (k : Int))).toNat : Nat) : Int) = 0:=h0
 have hb:=(BitVec.ofInt 64 x &&& ~~~(BitVec.ofInt 64 (k : Int))).isLt
 rw [IntKind.wrap_i64] at h1
 have h2 : (BitVec.ofInt 64 x &&& ~~~(BitVec.ofInt 64 (k : Int))).toNat = 0:=by omega
 have h3 : BitVec.ofInt 64 x &&& ~~~(BitVec.ofInt 64 (k : Int)) = 0#64:=BitVec.eq_of_toNat_eq (by simpa using h2)
 have hx : BitVec.ofInt 64 x = BitVec.ofInt 64 x &&& BitVec.ofInt 64 (k : Int):=by
  apply BitVec.eq_of_getLsbD_eq
  intro i hi
  have h4:=congrArg (fun b=>b.getLsbD i) h3
  simp only [BitVec.getLsbD_and,BitVec.getLsbD_not,hi,decide_true,Bool.true_and,BitVec.getLsbD_zero] at h4
  rw [BitVec.getLsbD_and]
  cases h5 : (BitVec.ofInt 64 x).getLsbD i <;> cases h7 : (BitVec.ofInt 64 (k : Int)).getLsbD i <;> simp_all
 have h4:=congrArg BitVec.toNat hx
 rw [BitVec.toNat_and] at h4
 have h5 : (BitVec.ofInt 64 x).toNat &&& (BitVec.ofInt 64 (k : Int)).toNat ≤ (BitVec.ofInt 64 (k : Int)).toNat:=Nat.and_le_right
 rw [← h4,BitVec.toNat_ofInt,BitVec.toNat_ofInt] at h5
 unfold L3.I6 at h6
 have e1 : ((k : Int) % ((2 ^ 64 : Nat) : Int)).toNat = k:=by omega
 rw [e1] at h5
 omega
theorem en_in {P : List L3.Cp.C} {i tag : Int} (h : L3.enA P i tag ≠ none) : 0 ≤ i ∧ i < P.length:=by
 unfold L3.enA at h
 split at h
 ·rename_i h1;exact h1
 ·exact absurd rfl h
theorem tx_in {P : List L3.Cp.C} {i : Int} (h : (L3.txO P i).2 = 0) : 0 ≤ i ∧ i < P.length:=by
 refine en_in (tag:=1) fun e=>?_
 unfold L3.txO at h
 rw [e] at h
 exact absurd h (by show ¬ ((33 : Int) = 0);decide)
theorem cl_in {P : List L3.Cp.C} {i : Int} (h : (L3.clO P i).2 = 0) : 0 ≤ i ∧ i < P.length:=by
 refine en_in (tag:=7) fun e=>?_
 unfold L3.clO at h
 rw [e] at h
 exact absurd h (by show ¬ ((33 : Int) = 0);decide)
theorem cla_in {P : List L3.Cp.C} {i : Int} (h : claE P i = 0) : 0 ≤ i ∧ i < P.length:=by
 unfold claE at h
 split at h
 ·rename_i h1;exact absurd h h1
 ·rename_i h1;exact cl_in (Decidable.not_not.1 h1)
theorem nm_in {P : List L3.Cp.C} {m : Mb} (h : (nmO P m).2 = 0) (h6 : L3.I6 m.ac) (hl : P.length ≤ 4096) : U2 m.ac ∧ U2 m.nm ∧ U2 m.ds:=by
 unfold nmO at h
 split at h
 ·cases h
 ·rename_i h1
  have h1 : accB (9 : Nat) m.ac = false:=by simpa using h1
  have h2:=acc_in (by decide) h6 h1
  split at h
  ·rename_i h3;exact absurd h h3
  ·rename_i h3
   have h3:=Decidable.not_not.1 h3
   unfold mbO at h3
   split at h3
   ·rename_i h4;exact absurd h3 h4
   ·rename_i h4
    have h4:=tx_in (Decidable.not_not.1 h4)
    split at h3
    ·rename_i h5;exact absurd h3 h5
    ·rename_i h5
     have h5:=tx_in (Decidable.not_not.1 h5)
     unfold U2
     omega
theorem dec_in {bs : List UInt8} {l : List L1.Op1.Ins} (h : L1.Op1.DecOut bs l 0) : bs.length ≤ 4096 ∧ 0 < bs.length ∧ ∀ x ∈ l,0 ≤ x.p ∧ x.p < bs.length:=by
 generalize he : (0 : Int) = er at h
 cases h with
 | long=>cases he
 | none=>cases he
 | bad h1 h2 h3 h4=>exact absurd he.symm h4
 | jump=>cases he
 | ok h1 h2 h3 h4=>exact ⟨h1,h2,h3.le.2.2⟩
theorem beg_in {l : List L1.Op1.Ins} {n : Nat} (hl : ∀ x ∈ l,0 ≤ x.p ∧ x.p < n) {p : Int} (h : begB l p = true) : 0 ≤ p ∧ p < n:=by
 unfold begB at h
 rw [List.any_eq_true] at h
 obtain ⟨x,hx,he⟩:=h
 rw [← eq_of_beq he]
 exact hl x hx
theorem hd_in {P : List L3.Cp.C} {l : List L1.Op1.Ins} {n : Nat} {h : Hn} (hl : ∀ x ∈ l,0 ≤ x.p ∧ x.p < n) (hn : n ≤ 4096) (hP : P.length ≤ 4096) (he : hdE P l n h = 0) : HnU h:=by
 unfold hdE at he
 split at he
 ·rename_i h1
  obtain ⟨h1,h2,h3,h4⟩:=h1
  have k2:=beg_in hl h2
  have k3:=beg_in hl h3
  have k4 : 0 ≤ h.t ∧ h.t ≤ n:=by
   rcases h4 with h4|h4
   ·have:=beg_in hl h4;omega
   ·omega
  have k5 : 0 ≤ h.y ∧ h.y < 65536:=by
   split at he
   ·omega
   ·have:=cla_in he;omega
  exact ⟨⟨by omega,by omega⟩,⟨by omega,by omega⟩,⟨by omega,by omega⟩,k5⟩
 ·cases he
theorem fst_zero {R : Nat → Int → Prop} {n : Nat} (h : FstR R n 0) : ∀ k,k < n → R k 0:=by
 rcases h with ⟨-,h⟩|⟨h,-⟩
 ·exact h
 ·exact absurd rfl h
theorem fd_in {P : List L3.Cp.C} {ah : List (ByteArray × ByteArray)} {m : Mb} (h : fdE P ah m = 0) (h6 : L3.I6 m.ac) (hl : P.length ≤ 4096) : MbU m ∧ plainM m = true:=by
 unfold fdE at h
 split at h
 ·rename_i h1;exact absurd h h1
 ·rename_i h1
  obtain ⟨k1,k2,k3⟩:=nm_in (Decidable.not_not.1 h1) h6 hl
  split at h
  ·rename_i h2;exact absurd h h2
  ·split at h
   ·cases h
   ·rename_i h3
    have hp : plainM m = true:=by
     cases e : plainM m with
     | true=>rfl
     | false=>exact absurd (.inr e) h3
    have hq:=hp
    unfold plainM at hq
    obtain ⟨q1,q2,q3,q4⟩:=of_decide_eq_true hq
    refine ⟨⟨k1,k2,k3,⟨by omega,by omega⟩,⟨by omega,by omega⟩,by omega,by omega,fun x hx=>?_⟩,hp⟩
    rw [List.length_eq_zero_iff.1 q4] at hx
    cases hx
theorem me_parts {P : List L3.Cp.C} {ah : List (ByteArray × ByteArray)} {m : Mb} (h : meIs P ah m 0) : (nmO P m).2 = 0 ∧ frE m (L2.mdOut (L2.Ds.bl (nmO P m).1.2)).1 = 0 ∧ CoIs P m 0:=by
 unfold meIs at h
 split at h
 ·rename_i h1;exact absurd h.symm h1
 ·rename_i h1
  split at h
  ·rename_i h2;exact absurd h.symm h2
  ·split at h
   ·cases h
   ·split at h
    ·cases h
    ·split at h
     ·rename_i h5;exact absurd h.symm h5
     ·rename_i h5
      exact ⟨Decidable.not_not.1 h1,Decidable.not_not.1 h5,h⟩
theorem co_parts {P : List L3.Cp.C} {m : Mb} (h : CoIs P m 0) : ∃ l,L1.Op1.DecOut m.code l 0 ∧ m.hs.length ≤ 64 ∧ FstR (HnIs P l m.code.length m.hs) m.hs.length 0:=by
 obtain ⟨l,d,hd,h⟩:=h
 split at h
 ·rename_i h7;exact absurd h.symm h7
 ·rename_i h7
  obtain rfl:=Decidable.not_not.1 h7
  split at h
  ·cases h
  ·rename_i h8
   exact ⟨l,hd,by omega,h⟩
theorem me_sizes {P : List L3.Cp.C} {ah : List (ByteArray × ByteArray)} {m : Mb} (h : meIs P ah m 0) : 0 < m.code.length ∧ m.code.length ≤ 4096 ∧ m.hs.length ≤ 64:=by
 obtain ⟨l,hd,h1,-⟩:=co_parts (me_parts h).2.2
 obtain ⟨d1,d2,-⟩:=dec_in hd
 exact ⟨d2,d1,h1⟩
theorem me_in {P : List L3.Cp.C} {ah : List (ByteArray × ByteArray)} {m : Mb} (h : meIs P ah m 0) (h6 : L3.I6 m.ac) (hl : P.length ≤ 4096) : MbU m:=by
 obtain ⟨q1,q2,q3⟩:=me_parts h
 obtain ⟨k1,k2,k3⟩:=nm_in q1 h6 hl
 obtain ⟨l,hd,h1,h2⟩:=co_parts q3
 obtain ⟨d1,d2,d3⟩:=dec_in hd
 unfold frE at q2
 split at q2
 ·cases q2
 ·rename_i h6
  refine ⟨k1,k2,k3,⟨by omega,by omega⟩,⟨by omega,by omega⟩,by omega,by omega,fun x hx=>?_⟩
  obtain ⟨k,hk⟩:=List.mem_iff_getElem?.1 hx
  have hlt : k < m.hs.length:=(List.getElem?_eq_some_iff.1 hk).1
  obtain ⟨y,hy,he⟩:=fst_zero h2 k hlt
  rw [hk] at hy
  cases hy
  exact hd_in d3 d1 hl he.symm
theorem cix_le (P : List L3.Cp.C) : cix P ≤ P.length:=by
 unfold cix
 split
 ·rename_i j hj
  rw [List.findIdx?_eq_some_iff_getElem] at hj
  obtain ⟨h1,-⟩:=hj
  rw [List.length_drop] at h1
  omega
 ·omega
def Ac6 (c : Cl) : Prop:=L3.I6 c.ac ∧ (∀ m ∈ c.fs,L3.I6 m.ac) ∧ ∀ m ∈ c.ms,L3.I6 m.ac
theorem cl_parts {c : Cl} (h : ClIs c 0) : verB c.mi c.ma = true ∧ L3.CkIs c.pool 0 ∧ c.pool.length ≤ 4096 ∧ accB 33 c.ac = false ∧ claE c.pool c.th = 0 ∧ claE c.pool c.su = 0 ∧ c.fs.length ≤ 256 ∧ c.ms.length ≤ 256 ∧
  (∀ k m,c.fs[k]? = some m → fdE c.pool (ahead c.pool c.fs k) m = 0) ∧ (∀ k m,c.ms[k]? = some m → meIs c.pool (ahead c.pool c.ms k) m 0) ∧ (c.ms ≠ [] → cix c.pool ≠ 0):=by
 have h0 : HdIs c 0:=fst_zero h 0 (by decide)
 have h1 : FstR (FdIs c.pool c.fs) c.fs.length 0:=fst_zero h 1 (by decide)
 have h2 : FstR (MeIs c.pool c.ms) c.ms.length 0:=fst_zero h 2 (by decide)
 have h3 : CnIs c 0:=fst_zero h 3 (by decide)
 unfold HdIs at h0
 split at h0
 ·cases h0
 ·rename_i hv
  obtain ⟨pk,hpk,h0⟩:=h0
  split at h0
  ·rename_i h4;exact absurd h0.symm h4
  ·rename_i h4
   obtain rfl:=Decidable.not_not.1 h4
   split at h0
   ·cases h0
   ·rename_i h5
    split at h0
    ·rename_i h6;exact absurd h0.symm h6
    ·rename_i h6
     split at h0
     ·rename_i h7;exact absurd h0.symm h7
     ·rename_i h7
      split at h0
      ·cases h0
      ·rename_i h8
       refine ⟨by simpa using hv,hpk,(L3.ck_all.1 hpk).1,by simpa using h5,Decidable.not_not.1 h6,Decidable.not_not.1 h7,by omega,by omega,fun k m hm=>?_,fun k m hm=>?_,fun hne=>?_⟩
       ·obtain ⟨x,hx,he⟩:=fst_zero h1 k (List.getElem?_eq_some_iff.1 hm).1
        rw [hm] at hx
        cases hx
        exact he.symm
       ·obtain ⟨x,hx,he⟩:=fst_zero h2 k (List.getElem?_eq_some_iff.1 hm).1
        rw [hm] at hx
        cases hx
        exact he
       ·obtain ⟨r,b,hf,he⟩:=h3
        obtain ⟨rfl,rfl⟩:=fi_cix hf
        intro e
        have hl : 0 < c.ms.length:=List.length_pos_iff.2 hne
        rw [if_pos ⟨by simpa using e,hl⟩] at he
        cases he
theorem cl_ranges {c : Cl} (h : ClIs c 0) (hn : ∀ x ∈ c.pool,L3.I6 x.n) (ha : Ac6 c) : ClU c:=by
 obtain ⟨h1,h2,h3,h4,h5,h6,h7,h8,h9,h10,h11⟩:=cl_parts h
 have k4:=acc_in (k:=33) (by decide) ha.1 h4
 have k5:=cla_in h5
 have k6:=cla_in h6
 have kc:=cix_le c.pool
 refine ⟨h1,⟨by omega,by omega⟩,⟨by omega,by omega⟩,⟨by omega,by omega⟩,h2,hn,by omega,by omega,fun m hm=>?_,fun m hm=>?_,by omega,fun hne=>Nat.one_le_iff_ne_zero.2 (h11 hne)⟩
 ·obtain ⟨k,hk⟩:=List.mem_iff_getElem?.1 hm
  exact fd_in (h9 k m hk) (ha.2.1 m hm) h3
 ·obtain ⟨k,hk⟩:=List.mem_iff_getElem?.1 hm
  exact me_in (h10 k m hk) (ha.2.2 m hm) h3
theorem cl_sizes {c : Cl} (h : ClIs c 0) : c.fs.length ≤ 256 ∧ c.ms.length ≤ 256 ∧ L3.CkIs c.pool 0 ∧ ∀ m ∈ c.ms,0 < m.code.length ∧ m.code.length ≤ 4096 ∧ m.hs.length ≤ 64:=by
 obtain ⟨-,h2,-,-,-,-,h7,h8,-,h10,-⟩:=cl_parts h
 refine ⟨h7,h8,h2,fun m hm=>?_⟩
 obtain ⟨k,hk⟩:=List.mem_iff_getElem?.1 hm
 exact me_sizes (h10 k m hk)
theorem mem_len {α : Type} {f : α → List Int} {b : Nat} : ∀ {l : List α},(∀ x ∈ l,(f x).length ≤ b) → (l.flatMap f).length ≤ l.length * b
 | [],_=>by simp
 | x :: l,h=>by
  rw [List.flatMap_cons,List.length_append,List.length_cons,Nat.succ_mul]
  have h1:=h x (by simp)
  have h2:=mem_len (l:=l) (fun y hy=>h y (List.mem_cons_of_mem _ hy))
  omega
end Cf
end Go.Proofs.YtnojgiflgmnjlaaGreatDoor
namespace Go.Proofs.YtnojgiflgmnjlaaGreatDoor
open Go.RowKit
theorem hne_grow {w w' : World} {v v' : Value} {pb : Nat} (hg : Kit.Grows w w' v v') (hp : pb < w.heap.size) (hne : ∀ k,v.ownBlock = some k → k ≠ pb) : ∀ k,v'.ownBlock = some k → k ≠ pb:=by
 intro k hk
 rcases hg.blk with e|⟨j,hj,e⟩
 ·exact hne k (by rw [← e];exact hk)
 ·rw [e] at hk
  have:=Option.some.inj hk
  omega
structure Cel (w : World) (v : Value) (pb : Nat) (code : Nat) : Prop where
 lt : pb < w.heap.size
 at0 : w.cell? ⟨pb,0,none⟩ = some (.int .i64 (code : Nat))
 ne : ∀ k,v.ownBlock = some k → k ≠ pb
theorem Cel.grow {w w' : World} {v v' : Value} {pb code : Nat} (h : Cel w v pb code) (hg : Kit.Grows w w' v v') : Cel w' v' pb code:=⟨Nat.lt_of_lt_of_le h.lt hg.size,(hg.cell h.lt h.ne 0).trans h.at0,hne_grow hg h.lt h.ne⟩
theorem Cel.alloc {w : World} {v : Value} {pb code : Nat} (h : Cel w v pb code) (o : Obj) : Cel (w.alloc o) v pb code :=
 ⟨by rw [World.size_alloc];exact Nat.lt_succ_of_lt h.lt,(((Below.refl w.heap.size w).alloc (Nat.le_refl _) o).cell (p:=⟨pb,0,none⟩) h.lt).trans h.at0,h.ne⟩
set_option maxHeartbeats 1000000 in
theorem wcl_any (w0 : World) (v : Value) (l : List Int) (m : Cf.Mb) (cv hv : Value) (code pb : Nat) (w : World) (h : Wr w0 w v l) (hB : L3.Bs w0.heap.size w0 cv m.code) (hH : Kit.IsS 4 w0 hv m.hs.length (m.hs.flatMap hL)) (hc : 0 < m.code.length)
  (hl : l.length + 26 + m.code.length + 8 * m.hs.length ≤ 1099511627776) (hp : Cel w v pb code) :
  Calls Tryz.prog 95 #[v,mbV m cv hv,.pointer (some ⟨pb,0,none⟩)] w (WP w0 w v (l ++ Cf.meB code m)):=by
 have HM:=hid (fun W (k : Wr w0 W v l)=>wmethod_any w0 v l m cv hv code W k hB hH hc hl)
 have HW:=hid h
 obtain ⟨xa,xc,rfl⟩:=hB.len
 obtain ⟨ya,yc,rfl⟩:=hH.len
 obtain ⟨va,vc,rfl⟩:=h.form
 have hpb:=hp.lt
 have hp0:=hp.at0
 obtain ⟨ac,nm,ds,st,lc,co,hs9⟩:=m
 unfold mbV at HM ⊢
 dsimp only at HM ⊢
 clear h hB hH hc hl hp
 go_enter Tryz.func95,Tryz.ntmps95
 go_wp2_with (go_at_call 96;refine (HM.out _ (HW.out.alloc _)).mono ?_;rintro e w1 ⟨v1,rfl,h1,g1⟩;have H1:=hid h1;have G1:=hid g1;obtain ⟨a1,k1,c1,rfl⟩:=own_form3 h1.1;clear h1 g1)
 go_ret
 exact WP.al ⟨_,rfl,H1.out,G1.out⟩
def wcFn (pb : Nat) : Value:=.func (.func 95) #[] #[.pointer (some ⟨pb,0,none⟩)]
theorem mes_len {code : Nat} {ms : List Cf.Mb} (hg : ∀ m ∈ ms,0 < m.code.length ∧ m.code.length ≤ 4096 ∧ m.hs.length ≤ 64) : (ms.flatMap (Cf.meB code)).length ≤ ms.length * 4634:=by
 refine Cf.mem_len fun m hm=>?_
 obtain ⟨-,h2,h3⟩:=hg m hm
 have:=Cf.attr_len m
 unfold Cf.meB
 simp only [List.length_append,Cf.w2_len,Cf.w4_len]
 omega
set_option maxHeartbeats 1000000 in
theorem wms_any (w0 : World) (v : Value) (l : List Int) (ms : List Cf.Mb) (mv : Value) (code pb : Nat) (w : World) (h : Wr w0 w v l) (hM : MsR w0 mv ms) (hg : ∀ m ∈ ms,0 < m.code.length ∧ m.code.length ≤ 4096 ∧ m.hs.length ≤ 64) (hn : ms.length ≤ 256)
  (hl : l.length ≤ 1073741824) (hp : Cel w v pb code) :
  Calls Tryz.prog 91 #[v,mv,wcFn pb] w (WP w0 w v (l ++ Cf.w2 ms.length ++ ms.flatMap (Cf.meB code))):=by
 have HW:=hid h
 have HS:=hid hM
 have HL:=hid hl
 have HP:=hid hp
 have HGd:=hid hg
 have HH:=hid (fun (v : Value) (l : List Int) (m : Cf.Mb) (cv hv : Value) (w : World) h hB hH hc hl hp=>wcl_any w0 v l m cv hv code pb w h hB hH hc hl hp)
 obtain ⟨a0,cp0,rfl⟩:=h.form
 obtain ⟨ha,hc,rfl⟩:=hM.len
 unfold wcFn
 unfold mbV at HH
 clear h hM hl hp hg
 go_enter Tryz.func91,Tryz.ntmps91
 go_wp2_with (go_at_call 90;refine (wu2_k w0 _ _ [(ms.length : Int)] _ _ 1 1 _ _ HW.out rfl (by have:=HL.out;omega) rfl rfl).mono ?_;rintro e w1 ⟨v1,rfl,h1,g1⟩;rw [w2_one] at h1;have H1:=hid h1;have G1:=hid g1;obtain ⟨a1,k1,cp1,rfl⟩:=own_form3 h1.1;clear h1 g1)
 go_loopw [0,16] (fun u i wr=>∃ k : Nat,k ≤ ms.length ∧ i = .int .i64 k ∧ Hid (Wr w0 wr u (l ++ Cf.w2 ms.length ++ (ms.take k).flatMap (Cf.meB code))) ∧ Hid (Kit.Grows w wr (.slice a0 l.length cp0) u)) (fun _ i _=>ms.length - (intOf i).toNat)
 case atStart=>exact ⟨0,by omega,rfl,hid (by simpa using H1.out),G1⟩
 case round =>
  obtain ⟨k,hk,rfl,HR,HG⟩:=hrel
  obtain ⟨a2,k2,cp2,rfl⟩:=own_form3 HR.out.1
  by_cases hlt : k < ms.length
  ·obtain ⟨⟨ac,nm,ds,st,lc,co,hs9⟩,hx⟩ : ∃ x,ms[k]? = some x:=⟨ms[k],List.getElem?_eq_getElem hlt⟩
   obtain ⟨b,o,cap',cv,hw,hv2,hbb,hB,hH,hcl,c0,c1,c2,c3,c4,c5,c6⟩:=(HS.out.below HR.out.2 (Nat.le_refl _)).at hx
   obtain ⟨b',o',cap'',cv',hw',hv3,hbb',hB0,hH0,-,-,-,-,-,-,d5,d6⟩:=HS.out.at hx
   obtain ⟨rfl,-,rfl⟩:=Value.slice.inj hv2
   have hv4:=Value.slice.inj hv3
   have hbo : b = b' ∧ o = o':=by simpa using hv4.1
   obtain ⟨rfl,rfl⟩:=hbo
   have e5 : cv = cv':=by
    have:=(HR.out.2.cell (p:=⟨b,o + k * 7 + 5,none⟩) (by simpa using hbb')).symm.trans c5
    rw [d5] at this
    exact (Option.some.inj this).symm
   have e6 : hw = hw':=by
    have:=(HR.out.2.cell (p:=⟨b,o + k * 7 + 6,none⟩) (by simpa using hbb')).symm.trans c6
    rw [d6] at this
    exact (Option.some.inj this).symm
   subst e5 e6
   have HX:=hid hx
   have hki : (k : Int) < (ms.length : Int):=by omega
   have hgd:=HGd.out _ (List.mem_of_getElem? hx)
   have hft:=mes_len (code:=code) (ms:=ms.take k) (fun m hm=>HGd.out m (List.mem_of_mem_take hm))
   have HLn:=hid (show (l ++ Cf.w2 ms.length ++ (ms.take k).flatMap (Cf.meB code)).length + 26 + co.length + 8 * hs9.length ≤ 1099511627776 by
    rw [List.length_append,List.length_append,Cf.w2_len];rw [List.length_take] at hft;have:=HL.out;dsimp only at hgd;omega)
   have HGk:=hid hgd
   dsimp only at c0 c1 c2 c3 c4 c5 c6 hB0 hH0
   have HB0:=hid hB0
   have HH0:=hid hH0
   obtain ⟨xa,xc,rfl⟩:=hB0.len
   obtain ⟨ya,yc,rfl⟩:=hH0.len
   clear hx hv2 hB hH hcl hv3 hv4 d5 d6 hgd hft hB0 hH0
   go_wp2_with (go_at_call 95;refine (HH.out _ _ ⟨ac,nm,ds,st,lc,co,hs9⟩ _ _ _ (HR.out.alloc _) HB0.out HH0.out HGk.out.1 HLn.out ((HP.out.grow HG.out).alloc _)).mono ?_;rintro e w2 ⟨v2,rfl,h2,g2⟩;have H2:=hid h2;have G2:=hid (grows_al (w:=wr) g2);clear h2 g2)
   go_roundw
   case rel=>exact ⟨k + 1,by omega,by go_num,hid (by rw [take_flat HX.out,← List.append_assoc];exact H2.out),hid (HG.out.trans G2.out)⟩
   case measure=>simp [intOf];omega
  ·obtain rfl : k = ms.length:=by omega
   have H9:=HR.out
   rw [List.take_length] at H9
   have H9:=hid H9
   go_wp2
   go_ret
   exact ⟨_,rfl,H9.out,HG.out⟩
end Go.Proofs.YtnojgiflgmnjlaaGreatDoor
