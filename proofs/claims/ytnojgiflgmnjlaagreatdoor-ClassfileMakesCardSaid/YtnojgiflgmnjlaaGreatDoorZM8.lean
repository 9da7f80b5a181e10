/- Own texts for the claim, part 8. -/
import Derived.Test.YtnojgiflgmnjlaaGreatDoorZM7
set_option maxRecDepth 100000
namespace Go.Proofs.YtnojgiflgmnjlaaGreatDoor.L3
open Go.RowKit
attribute [local go_sem] Oper.semAt_some
theorem bx_own {β : Type} (B : Nat) (C : Array Value) (t : TypeId) : Own (fun (_ : β) W=>BX W B C t):=fun s X Y row hs hg hr =>
 (hg.block B hs.sz (fun e=>by obtain ⟨o,ho,hc⟩:=hr B e.symm;rw [show X.heap[B]? = _ from hs] at ho;cases ho;cases hc)).trans hs
def FiJ {l : List Cp.C} (c : Cp.C) (hi : Nat) (w : World) (pre : List (Tx l)) (W : World) : Prop :=
 BX W w.heap.size (cC c) 56 ∧ Boxed W (w.heap.size + 1) 3 (.int .i64 0) ∧ Boxed W (w.heap.size + 1 + 1) 4 (.bool false) ∧ Hid (∀ x ∈ pre,¬ (0 < x.1.1 ∧ x.1.2 = c)) ∧ Below w.heap.size w W ∧ hi ≤ W.heap.size
theorem FiJ.own {l : List Cp.C} {c : Cp.C} {hi n : Nat} {w : World} (hn : w.heap.size ≤ n) : OwnFrom n (FiJ (l:=l) c hi w):=by
 rintro pre A B row ⟨h0,h1,h2,h3,h4,h5⟩ hg hr
 exact ⟨bx_own _ _ _ () A B row h0 hg (fun r e=>(hr r e).2),boxed_own _ _ (fun _ : Unit=>.int .i64 0) () A B row h1 hg (fun r e=>(hr r e).2),boxed_own _ _ (fun _ : Unit=>.bool false) () A B row h2 hg (fun r e=>(hr r e).2),h3,h4.grown hg h4.size (fun k e=>by have:=(hr k e).1;omega),Nat.le_trans h5 hg.size⟩
def FiX {l : List Cp.C} (c : Cp.C) (w : World) (pre : List (Tx l)) (W : World) : Prop :=
 ∃ x p,Boxed W (w.heap.size + 1) 3 (.int .i64 (x.1.1 : Nat)) ∧ Boxed W (w.heap.size + 1 + 1) 4 (.bool true) ∧ pre = p ++ [x] ∧ 0 < x.1.1 ∧ x.1.2 = c ∧ (∀ y ∈ p,¬ (0 < y.1.1 ∧ y.1.2 = c)) ∧ Below w.heap.size w W
theorem FiX.own {l : List Cp.C} {c : Cp.C} {n : Nat} {w : World} (hn : w.heap.size ≤ n) : OwnFrom n (FiX (l:=l) c w):=by
 rintro pre A B row ⟨x,p,h1,h2,h3,h4,h5,h6,h7⟩ hg hr
 exact ⟨x,p,boxed_own _ _ (fun _ : Unit=>.int .i64 (x.1.1 : Nat)) () A B row h1 hg (fun r e=>(hr r e).2),boxed_own _ _ (fun _ : Unit=>.bool true) () A B row h2 hg (fun r e=>(hr r e).2),h3,h4,h5,h6,h7.grown hg h7.size (fun k e=>by have:=(hr k e).1;omega)⟩
theorem FiX.is {l : List Cp.C} {c : Cp.C} {w W : World} {k : Nat} (h : FiX c w (told l k) W) : ∃ r,FiIs l c r true ∧ Boxed W (w.heap.size + 1) 3 (.int .i64 (r : Nat)) ∧ Boxed W (w.heap.size + 1 + 1) 4 (.bool true) ∧ Below w.heap.size w W:=by
 obtain ⟨x,p,h1,h2,h3,h4,h5,h6,h7⟩:=h
 obtain ⟨hp,-⟩:=told_last h3
 refine ⟨x.1.1,.inr ⟨rfl,h4,h5 ▸ x.2.2,h5 ▸ x.2.1,fun j hj hlt hc=>?_⟩,h1,h2,h7⟩
 have hm:=told_mem hc (h5 ▸ x.2.2) hlt
 rw [← hp] at hm
 exact h6 _ hm ⟨hj,rfl⟩
theorem FiJ.no {l : List Cp.C} {c : Cp.C} (h : ∀ x ∈ told l l.length,¬ (0 < x.1.1 ∧ x.1.2 = c)) : FiIs l c 0 false:=by
 refine .inl ⟨rfl,rfl,fun j hj ht hc=>?_⟩
 have hlt : j < l.length:=by rw [List.getElem?_eq_some_iff] at hc;exact hc.1
 exact h _ (told_mem hc ht hlt) ⟨hj,rfl⟩
theorem fi_snoc {l : List Cp.C} {c : Cp.C} {pre : List (Tx l)} {x : Tx l} (h : ∀ y ∈ pre,¬ (0 < y.1.1 ∧ y.1.2 = c)) (hx : ¬ (0 < x.1.1 ∧ x.1.2 = c)) : ∀ y ∈ pre ++ [x],¬ (0 < y.1.1 ∧ y.1.2 = c):=by
 intro y hy
 rcases List.mem_append.1 hy with hy|hy
 ·exact h y hy
 ·obtain rfl : y = x:=by simpa using hy
  exact hx
set_option maxHeartbeats 4000000 in
theorem find_any (l : List Cp.C) (c : Cp.C) (v : Value) (w : World) (hv : Kit.IsS 5 w v l.length (l.flatMap cL)) (hn : l.length * 48 ≤ 140737488355328) :
  Calls Tryz.prog 93 #[v,.agg (cC c)] w (FiPost l c w):=by
 have HV:=hid (fun W (h : Below w.heap.size w W)=>hv.below h (Nat.le_refl _))
 obtain ⟨a,cap,hv2⟩:=hv.len
 subst hv2
 have hlen:=hv.2.1
 clear hv
 refine (callsIn_wide (n:=5)).1 ?_
 refine callsIn_of_wp_marks Tryz.func93 rfl trivial ?_ rfl
 simp only [Tryz.ntmps93,List.size_toArray,List.length_cons,List.length_nil,Nat.reduceAdd,Nat.reduceSub,Array.replicate_succ,Array.replicate_zero,List.push_toArray,List.append_toArray,List.nil_append,List.cons_append]
 obtain ⟨t,s,n,ca,cb⟩:=c
 unfold cC
 dsimp only
 gi_wp2_with (refine ⟨trivial,?_⟩;gi_at_call 87;refine (callsIn_wide.2 (all_any l _ _ (HV.out _ BLw) hn)).mono ?_;rintro e w3 ⟨v3,rfl,hX,hb3,hz3⟩)
 obtain ⟨C,hC⟩ : ∃ C : Array Value,C = #[.int .i64 t,.string s,.int .i64 n,.int .i64 ca,.int .i64 cb]:=⟨_,rfl⟩
 have hCc : cC ⟨t,s,n,ca,cb⟩ = C:=hC.symm
 rw [← hC] at hX hb3 hz3
 have hbA : Below (w.heap.size + 1) (w.alloc (.cells C 56)) w3:=belows (((Below.refl (w.heap.size + 1) (w.alloc (.cells C 56))).alloc (by simp) _).alloc (by simp) _) hb3 (by simp only [World.size_alloc];omega)
 have bc : BX w3 w.heap.size C 56:=(BX.new w C 56).below hbA (by omega)
 have i1 : Boxed w3 (w.heap.size + 1) 3 (.int .i64 0):=(hb3.block (w.heap.size + 1) (by simp only [World.size_alloc];omega)).trans (by have:=(Boxed.new (w.alloc (.cells C 56)) 3 (.int .i64 0)).alloc (.cells #[.bool false] 4);rw [World.size_alloc] at this;exact this)
 have i2 : Boxed w3 (w.heap.size + 1 + 1) 4 (.bool false):=(hb3.block (w.heap.size + 1 + 1) (by simp only [World.size_alloc];omega)).trans (by have:=Boxed.new ((w.alloc (.cells C 56)).alloc (.cells #[.int .i64 0] 3)) 4 (.bool false);rw [World.size_alloc,World.size_alloc] at this;exact this)
 simp only [World.size_alloc] at hz3 hX
 have hB3 : Below w.heap.size w w3:=belows ((Below.refl _ w).alloc (Nat.le_refl _) (.cells C 56)) (by rw [World.size_alloc];exact hbA) (by rw [World.size_alloc];omega)
 have hkX : Hid (∀ X,Kp (w.heap.size + 1 + 1 + 1) w3.heap.size w3 X → Kit.IsS 5 X v3 l.length (l.flatMap cL) ∧ X.cell? ⟨w.heap.size + 1 + 1 + 1,0,none⟩ = some v3):=hX
 have hB3z:=hB3.size
 clear hX hb3 hbA
 refine wpIn_rangeFunc_ownH rfl (by omega) (gf:=143) (lb:=#[.pointer (some ⟨w.heap.size + 1 + 1 + 1,0,none⟩)]) rfl trivial (enters_of Tryz.func143 (by kernel_rfl) rfl)
  (all1_stops l v3 (w.heap.size + 1 + 1 + 1) (w.heap.size + 1 + 1 + 1) (5 - 1) w3 (by omega) hkX.out) (fun h k=>Kp.trans h k) (Kp.putObj (Nat.le_refl _)) (Below.refl _ _) (fun _=>rfl)
  (FiJ ⟨t,s,n,ca,cb⟩ w3.heap.size w) (fun c' pre W=>c' = .ret ∧ FiX ⟨t,s,n,ca,cb⟩ w pre W) (FiJ.own hB3.size) (fun c' pre A B row h hg hr=>⟨h.1,FiX.own hB3.size pre A B row h.2 hg hr⟩)
  ⟨hCc ▸ bc,i1,i2,hid (fun x hx=>by cases hx),hB3,Nat.le_refl _⟩
  (fun x a' W=>∃ Bx,w3.heap.size ≤ Bx ∧ BX W Bx (cC x.1.2) 56 ∧ a' = { tmps:=#[.slice a l.length cap,.agg #[.int .i64 t,.string s,.int .i64 n,.int .i64 ca,.int .i64 cb],undef,.pointer (some ⟨w.heap.size,0,none⟩),.pointer (some ⟨w.heap.size + 1,0,none⟩),.pointer (some ⟨w.heap.size + 1 + 1,0,none⟩),.int .i64 (x.1.1 : Int),.pointer (some ⟨Bx,0,none⟩),.slice a l.length cap,.func (.func 143) #[] #[.pointer (some ⟨w.heap.size + 1 + 1 + 1,0,none⟩)],.int .i64 (x.1.1 : Int),.agg (cC x.1.2),undef,undef,undef,undef,undef,undef,undef,undef],defers:=[] })
  (fun x a'=>Own.from (fun s A B row hs hg hr=>by
   obtain ⟨Bx,h1,h2,h3⟩:=hs
   exact ⟨Bx,h1,bx_own _ _ _ s A B row h2 hg hr,h3⟩) _) ?assign ?body ?done ?stop
 case assign =>
  rintro D pre ⟨⟨k,xt,xs,xn,xa,xb⟩,hx⟩ W K hI hK
  unfold entE cC
  gi_wp2
  exact hK _ _ ((KeepsOthers.alloc _ _).from _) ((Kp.refl _ _ W).below ((Below.refl W.heap.size W).alloc (Nat.le_refl _) _) (by obtain ⟨-,-,-,-,-,h⟩:=hI;exact h)) ((FiJ.own hB3.size).alloc _ hI) ⟨W.heap.size,(by obtain ⟨-,-,-,-,-,h⟩:=hI;exact h),BX.new W _ _,rfl⟩
 case body =>
  rintro D pre ⟨⟨k,xt,xs,xn,xa,xb⟩,hx⟩ a' W hl ⟨r,hr⟩ ⟨bC,i1,i2,hp,hB,hh⟩ ⟨Bx,hBx,bX,rfl⟩ hlt
  have x0:=bX.cell 0
  have x1:=bX.cell 1
  have x2:=bX.cell 2
  have x3:=bX.cell 3
  have x4:=bX.cell 4
  rw [hCc,hC] at bC
  have c0:=bC.cell 0
  have c1:=bC.cell 1
  have c2:=bC.cell 2
  have c3:=bC.cell 3
  have c4:=bC.cell 4
  have b1:=i1.cell
  have b2:=i2.cell
  have f1:=i1.frozen
  have f2:=i2.frozen
  unfold cC at x0 x1 x2 x3 x4 ⊢
  simp at x0 x1 x2 x3 x4 c0 c1 c2 c3 c4
  dsimp only
  have HS:=hid (fun h=>fi_snoc (c:=⟨t,s,n,ca,cb⟩) (x:=⟨(k,⟨xt,xs,xn,xa,xb⟩),hx⟩) hp.out h)
  have HbC:=hid bC
  have bXs:=bX.sz
  clear hr bC bX
  by_cases hk0 : 0 < k
  ·have hd : decide ((0 : Int) < k) = true:=by simp;omega
   by_cases hxc : (⟨xt,xs,xn,xa,xb⟩ : Cp.C) = ⟨t,s,n,ca,cb⟩
   ·obtain ⟨rfl,rfl,rfl,rfl,rfl⟩:=Cp.C.mk.inj hxc
    clear hxc
    gi_wp2
    exact ⟨((KeepsOthers.setCell _ _ _).trans (KeepsOthers.setCell _ _ _)).from _,rfl,⟨(k,⟨xt,xs,xn,xa,xb⟩),hx⟩,pre,(i1.set _).other (by omega) _,(i2.other (by omega) _).set _,rfl,hk0,rfl,hp.out,BLw⟩
   ·have HN:=hid (HS.out (fun e=>hxc e.2))
    have hne:=c_ne hxc
    dsimp only at hne
    clear hxc
    rcases hne with h|⟨rfl,h⟩|⟨rfl,rfl,h⟩|⟨rfl,rfl,rfl,h⟩|⟨rfl,rfl,rfl,rfl,h⟩
    all_goals gi_wp2
    all_goals exact ⟨(KeepsOthers.refl _).from _,Kp.refl _ _ _,HbC.out,i1,i2,HN,hB,hh⟩
  ·have HN:=hid (HS.out (fun e=>hk0 e.1))
   have hd : decide ((0 : Int) < k) = false:=by simp;omega
   gi_wp2
   exact ⟨(KeepsOthers.refl _).from _,Kp.refl _ _ _,HbC.out,i1,i2,HN,hB,hh⟩
 case done =>
  rintro D ys W hD rfl ⟨bC,i1,i2,hp,hB,hh⟩ hK
  have HF:=hid (FiJ.no hp.out)
  have b1:=i1.cell
  have b2:=i2.cell
  have f1:=i1.frozen
  have f2:=i2.frozen
  gi_wp2
  have hK':=((KeepsOthers.setCell W ⟨w.heap.size + 1,0,none⟩ (.int .i64 0)).trans (KeepsOthers.setCell _ ⟨w.heap.size + 1 + 1,0,none⟩ (.bool false))).same D _ hK rfl
  refine ⟨by simp,.inl ⟨_,_,rfl,run_takeDeferred hK',?_⟩⟩
  have j1 : Boxed ((W.setCell ⟨w.heap.size + 1,0,none⟩ (.int .i64 0)).setCell ⟨w.heap.size + 1 + 1,0,none⟩ (.bool false)) (w.heap.size + 1) 3 (.int .i64 0):=(i1.set _).other (by omega) _
  have j2 : Boxed ((W.setCell ⟨w.heap.size + 1,0,none⟩ (.int .i64 0)).setCell ⟨w.heap.size + 1 + 1,0,none⟩ (.bool false)) (w.heap.size + 1 + 1) 4 (.bool false):=(i2.other (by omega) _).set _
  have hc1:=cell_kept j1.cell (grownBy_putObj' _ D (.deferred none)) (fun r e=>by cases e;exact ⟨_,hK',rfl⟩)
  have hc2:=cell_kept j2.cell (grownBy_putObj' _ D (.deferred none)) (fun r e=>by cases e;exact ⟨_,hK',rfl⟩)
  have hBB : Below w.heap.size w ((W.setCell ⟨w.heap.size + 1,0,none⟩ (.int .i64 0)).setCell ⟨w.heap.size + 1 + 1,0,none⟩ (.bool false)):=BLw
  refine ⟨.tuple #[.int .i64 0,.bool false],?_,0,false,HF.out,rfl,hBB.trans (belowK_b (w:=w) (Nat.le_refl _) _ D _ _ (by omega) hK' rfl rfl)⟩
  simp [results,Tryz.f93,go_sem,hc1,hc2]
 case stop =>
  rintro D c' pre W hD ⟨k,hk,rfl⟩ ⟨rfl,hX⟩ hK
  obtain ⟨r,hF,i1,i2,hB⟩:=hX.is
  have HF:=hid hF
  clear hF hX
  gi_wp2
  refine ⟨by simp,.inl ⟨_,_,rfl,run_takeDeferred hK,?_⟩⟩
  have hc1:=cell_kept i1.cell (grownBy_putObj' _ D (.deferred none)) (fun r e=>by cases e;exact ⟨_,hK,rfl⟩)
  have hc2:=cell_kept i2.cell (grownBy_putObj' _ D (.deferred none)) (fun r e=>by cases e;exact ⟨_,hK,rfl⟩)
  refine ⟨.tuple #[.int .i64 r,.bool true],?_,r,true,HF.out,rfl,hB.trans (belowK_b (w:=w) (Nat.le_refl _) _ D _ _ (by omega) hK rfl rfl)⟩
  simp [results,Tryz.f93,go_sem,hc1,hc2]
end Go.Proofs.YtnojgiflgmnjlaaGreatDoor.L3
namespace Go.Proofs.YtnojgiflgmnjlaaGreatDoor.L3
open Go.RowKit
def hdP (l : List Cp.C) : List Cp.C:=if l.length = 0 then l ++ [Cp.C0] else l
def AdIs (l : List Cp.C) (c : Cp.C) (m : List Cp.C) (i : Nat) (er : Int) : Prop :=
 (CkIs l er ∧ er ≠ 0 ∧ m = [] ∧ i = 0) ∨ (CkIs l 0 ∧ ((ceOut c = er ∧ er ≠ 0 ∧ m = [] ∧ i = 0) ∨ (ceOut c = 0 ∧ ((FiIs l c i true ∧ er = 0 ∧ m = l) ∨ (FiIs l c 0 false ∧ ((4096 < (appE (hdP l) c).length ∧ er = 3 ∧ m = [] ∧ i = 0) ∨ ((appE (hdP l) c).length ≤ 4096 ∧ er = 0 ∧ m = appE (hdP l) c ∧ i = (hdP l).length)))))))
theorem AdIs.det {l : List Cp.C} {c : Cp.C} {m m' : List Cp.C} {i i' : Nat} {er er' : Int} (h : AdIs l c m i er) (k : AdIs l c m' i' er') : m = m' ∧ i = i' ∧ er = er':=by
 rcases h with ⟨h1,h2,rfl,rfl⟩|⟨h1,h⟩ <;> rcases k with ⟨k1,k2,rfl,rfl⟩|⟨k1,k⟩
 ·exact ⟨rfl,rfl,h1.det k1⟩
 ·exact absurd (h1.det k1) h2
 ·exact absurd (k1.det h1) k2
 ·rcases h with ⟨h2,h3,rfl,rfl⟩|⟨h2,h⟩ <;> rcases k with ⟨k2,k3,rfl,rfl⟩|⟨k2,k⟩
  ·exact ⟨rfl,rfl,h2.symm.trans k2⟩
  ·exact absurd (h2.symm.trans k2) h3
  ·exact absurd (k2.symm.trans h2) k3
  ·rcases h with ⟨h3,rfl,rfl⟩|⟨h3,h⟩ <;> rcases k with ⟨k3,rfl,rfl⟩|⟨k3,k⟩
   ·exact ⟨rfl,(h3.det k3).1,rfl⟩
   ·cases (h3.det k3).2
   ·cases (h3.det k3).2
   ·rcases h with ⟨h4,rfl,rfl,rfl⟩|⟨h4,rfl,rfl,rfl⟩ <;> rcases k with ⟨k4,rfl,rfl,rfl⟩|⟨k4,rfl,rfl,rfl⟩
    ·exact ⟨rfl,rfl,rfl⟩
    ·omega
    ·omega
    ·exact ⟨rfl,rfl,rfl⟩
def AdPost (l : List Cp.C) (c : Cp.C) (w : World) (e : Ending) (w' : World) : Prop :=
 ∃ (m : List Cp.C) (i : Nat) (er : Int) (v : Value),AdIs l c m i er ∧ e = .returned (.tuple #[v,.int .i64 (i : Nat),.int .i64 er]) ∧ OwnC w' w.heap.size v m ∧ Below w.heap.size w w'
theorem ownC_mono {w : World} {b b' : Nat} {v : Value} {l : List Cp.C} (h : OwnC w b v l) (hb : b' ≤ b) : OwnC w b' v l:=by
 refine ⟨h.1,?_⟩
 rcases h.2 with h|⟨g,cap,cur,hv,hg,k⟩
 ·exact .inl h
 ·exact .inr ⟨g,cap,cur,hv,Nat.le_trans hb hg,k⟩
theorem AdPost.no {l : List Cp.C} {c : Cp.C} {w w' : World} {er : Int} (h : AdIs l c [] 0 er) (hb : Below w.heap.size w w') : AdPost l c w (.returned (.tuple #[.slice none 0 0,.int .i64 0,.int .i64 er])) w' :=
 ⟨[],0,er,_,h,rfl,nilC _ _,hb⟩
set_option maxHeartbeats 4000000 in
theorem add_any (l : List Cp.C) (c : Cp.C) (v : Value) (w : World) (ht : Tabs w) (hv : Kit.IsS 5 w v l.length (l.flatMap cL)) (hs : ∀ x ∈ l,x.s.size ≤ 140737488355328) (hcs : c.s.size ≤ 140737488355328) (hn : l.length * 48 ≤ 140737488355328) :
  Calls Tryz.prog 163 #[v,.agg (cC c)] w (AdPost l c w):=by
 have hs0:=ht.size
 have HT:=hid (fun W (h : Below w.heap.size w W)=>ht.below h ht.size)
 have HV:=hid (fun W (h : Below w.heap.size w W)=>hv.below h (Nat.le_refl _))
 have HCk:=hid (fun W (h : Below w.heap.size w W)=>check_any l v W (HT.out W h) (HV.out W h) hs)
 have HCe0:=fun W (h : Below w.heap.size w W)=>checkEntry_any c W (HT.out W h) hcs
 have HFi:=hid (fun W (h : Below w.heap.size w W)=>find_any l c v W (HV.out W h) hn)
 have HCl:=hid (fun W (h : Below w.heap.size w W)=>cclone_any l v W (HV.out W h) hn)
 obtain ⟨a,cap,hv2⟩:=hv.len
 subst hv2
 have hlen:=hv.2.1
 clear hv ht hs
 obtain ⟨C,hC⟩ : ∃ C,C = cC c:=⟨_,rfl⟩
 by_cases h0 : CkIs l 0
 case neg =>
  have H0:=hid h0
  unfold cC
  clear h0 hC
  go_enter Tryz.func163,Tryz.ntmps163
  go_wp2_with (go_at_call 85;refine (HCk.out _ BLw).mono ?_;rintro e w1 ⟨er,hck,rfl,hb1⟩;have hne : (er != 0) = true:=(by (simp;rintro rfl;exact H0.out hck));have HK:=hid hck;clear hck)
  exact bodyPost_ret (v:=.tuple #[.slice none 0 0,.int .i64 0,.int .i64 er]) (by simp [results,Tryz.results163,go_sem]) rfl (AdPost.no (.inl ⟨HK.out,fun e=>H0.out (e ▸ HK.out),rfl,rfl⟩) (belows (B:=w.heap.size) (a:=w) ((Below.refl _ w).alloc (Nat.le_refl _) _) hb1 (by simp)))
 case pos =>
 have H0:=hid h0
 clear h0
 by_cases hce : ceOut c = 0
 case neg =>
  obtain ⟨ec,hec⟩ : ∃ ec,ec = ceOut c:=⟨_,rfl⟩
  rw [← hec] at HCe0 hce
  have HCe:=hid HCe0
  have HA:=hid (show AdIs l c [] 0 ec from .inr ⟨H0.out,.inl ⟨hec.symm,hce,rfl,rfl⟩⟩)
  have hne2 : (ec != 0) = true:=by simpa using hce
  unfold cC at HCe ⊢
  clear hC HCe0 hce hec
  go_enter Tryz.func163,Tryz.ntmps163
  go_wp2_with (first
   | (go_at_call 85;refine (HCk.out _ BLw).mono ?_;rintro e w1 ⟨er,hck,rfl,hb1⟩;obtain rfl:=CkIs.det hck H0.out;clear hck;have B1:=belows (B:=w.heap.size) (a:=w) ((Below.refl _ w).alloc (Nat.le_refl _) _) hb1 (by simp);have bx1:=(BX.new w #[.int .i64 c.t,.string c.s,.int .i64 c.n,.int .i64 c.a,.int .i64 c.b] 56).below hb1 (by simp);have c0:=bx1.cell 0;have c1:=bx1.cell 1;have c2:=bx1.cell 2;have c3:=bx1.cell 3;have c4:=bx1.cell 4;simp at c0 c1 c2 c3 c4)
   | (go_at_call 170;refine (HCe.out _ B1).mono ?_;rintro e w2 ⟨rfl,hb2⟩;have B2:=belows B1 hb2 B1.size;have bx2:=bx1.below hb2 bx1.sz;clear hb2))
  exact bodyPost_ret (v:=.tuple #[.slice none 0 0,.int .i64 0,.int .i64 ec]) (by simp [results,Tryz.results163,go_sem]) rfl (AdPost.no HA.out B2)
 case pos =>
 rw [hce] at HCe0
 have HCe:=hid HCe0
 have hl4 : l.length ≤ 4096:=(ck_size H0.out).1
 have HA1:=hid (fun r (h : FiIs l c r true)=>show AdIs l c l r 0 from .inr ⟨H0.out,.inr ⟨hce,.inl ⟨h,rfl,rfl⟩⟩⟩)
 have HA2:=hid (fun (h : FiIs l c 0 false) (h2 : 4096 < (appE (hdP l) c).length)=>show AdIs l c [] 0 3 from .inr ⟨H0.out,.inr ⟨hce,.inr ⟨h,.inl ⟨h2,rfl,rfl,rfl⟩⟩⟩⟩)
 have HA3:=hid (fun (h : FiIs l c 0 false) (h2 : (appE (hdP l) c).length ≤ 4096)=>show AdIs l c (appE (hdP l) c) (hdP l).length 0 from .inr ⟨H0.out,.inr ⟨hce,.inr ⟨h,.inr ⟨h2,rfl,rfl,rfl⟩⟩⟩⟩)
 obtain ⟨i0,hi,hz0,hz1,hz2⟩:=info_parts infoC
 obtain ⟨m,hm⟩ : ∃ m,m = hdP l:=⟨_,rfl⟩
 have hml : m.length ≤ 4097:=by
  rw [hm]
  unfold hdP
  split
  ·rw [List.length_append];simp only [List.length_cons,List.length_nil];omega
  ·omega
 have HAp0:=fun (base : Nat) (u : Value) (W : World) (ho : OwnC W base u m) (hb : base ≤ W.heap.size)=>appendEntry_any base m u c W ho hb (by omega)
 obtain ⟨M,hM⟩ : ∃ M,M = appE m c:=⟨_,rfl⟩
 rw [← hm,← hM] at HA2 HA3
 rw [← hM] at HAp0
 have HAp:=hid HAp0
 have HFF : ∀ r b,FiIs l c r b → b = false → r = 0:=fun r b h e=>by
  rcases h with ⟨-,h,-⟩|⟨h,-⟩
  ·exact h
  ·rw [e] at h;cases h
 unfold cC at HCe HFi HAp ⊢
 clear HCe0 hce hC HAp0 hM
 by_cases hl0 : l.length = 0
 ·have hd0 : ((l.length : Int) == 0) = true:=by rw [beq_iff_eq];omega
  have hm2 : m = l ++ [Cp.C0]:=by rw [hm];unfold hdP;rw [if_pos hl0]
  have HM2:=hid hm2
  clear hm hm2 hl0
  by_cases hbig : 4096 < M.length
  ·have hdb : decide (4096 < (M.length : Int)) = true:=by simp;omega
   go_enter Tryz.func163,Tryz.ntmps163
   go_wp2_with (first|(go_at_call 85;refine (HCk.out _ BLw).mono ?_;rintro e w1 ⟨er,hck,rfl,hb1⟩;obtain rfl:=CkIs.det hck H0.out;clear hck;have B1:=belows (B:=w.heap.size) (a:=w) ((Below.refl _ w).alloc (Nat.le_refl _) _) hb1 (by simp);have bx1:=(BX.new w #[.int .i64 c.t,.string c.s,.int .i64 c.n,.int .i64 c.a,.int .i64 c.b] 56).below hb1 (by simp);have c0:=bx1.cell 0;have c1:=bx1.cell 1;have c2:=bx1.cell 2;have c3:=bx1.cell 3;have c4:=bx1.cell 4;simp at c0 c1 c2 c3 c4)|(go_at_call 170;refine (HCe.out _ B1).mono ?_;rintro e w2 ⟨rfl,hb2⟩;have B2:=belows B1 hb2 B1.size;have bx2:=bx1.below hb2 bx1.sz;clear hb2)|(go_at_call 76;refine (HCl.out _ B2).mono ?_;rintro e w4 ⟨v4,rfl,o4,hb4⟩;obtain ⟨a4,cap4,rfl⟩:=own_form o4;have B4:=belows B2 hb4 B2.size;have bx4:=bx2.below hb4 bx2.sz;have hw2:=B2.size;have hs2:=bx2.sz;have d0:=bx4.cell 0;have d1:=bx4.cell 1;have d2:=bx4.cell 2;have d3:=bx4.cell 3;have d4:=bx4.cell 4;simp at d0 d1 d2 d3 d4;have O4:=hid o4;have hz4:=hb4.size;clear o4 hb4)|(go_at_call 93;refine (HFi.out _ B4).mono ?_;rintro e w5 ⟨r,b,hF,rfl,hb5⟩;have B5:=belows B4 hb5 B4.size;have bx5:=bx4.below hb5 bx4.sz;have O5:=hid (Kit.owns_below O4.out hb5 (Nat.le_refl _));have hz5:=hb5.size;have e0:=bx5.cell 0;have e1:=bx5.cell 1;have e2:=bx5.cell 2;have e3:=bx5.cell 3;have e4:=bx5.cell 4;simp at e0 e1 e2 e3 e4;clear hb5;have hr0:=HFF r b hF;have HF:=hid hF;clear hF;cases b;(obtain rfl:=hr0 rfl;clear hr0))|(at_builtin;refine wpList_append_own_at _ rfl (.tmp 37) (.tmp 39) 23 rfl w2.heap.size 56 i0 _ 5 48 Tryz.underlying23 hi hz0 hz1 hz2 rfl (by decide) _ _ _ rfl (World.ownsRow.alloc O5.out _) ⟨w5.heap.size,0,none⟩ 1 1 (cL Cp.C0) rfl rfl (news_c w5 Cp.C0) (ones_c _) (by unfold maxLen;omega) (by omega) (by simp only [World.size_alloc];omega) ?_;intro v6 w6 o6' hg6 _ hk6;have o6:=OwnC.snoc o6';rw [← HM2.out] at o6;have hg6s:=hg6.size;simp only [World.size_alloc] at hg6s;have B6:=(B5.alloc B5.size (.cells #[.int .i64 0,.string ⟨#[]⟩,.int .i64 0,.int .i64 0,.int .i64 0] 56)).grown hg6 (by simp only [World.size_alloc];omega) (fun k e=>by (have:=Kit.own_base O5.out k e;omega));have bx6:=(bx5.below ((Below.refl w5.heap.size w5).alloc (Nat.le_refl _) (.cells #[.int .i64 0,.string ⟨#[]⟩,.int .i64 0,.int .i64 0,.int .i64 0] 56)) bx5.sz).grown hg6 (fun e=>by (have:=Kit.own_base O5.out _ e;omega));have g0:=bx6.cell 0;have g1:=bx6.cell 1;have g2:=bx6.cell 2;have g3:=bx6.cell 3;have g4:=bx6.cell 4;simp at g0 g1 g2 g3 g4;obtain ⟨a6,cap6,rfl⟩:=own_form o6;have O6:=hid o6;clear o6 o6' hg6 hk6)|(go_at_call 187;refine (HAp.out _ _ _ O6.out (by omega)).mono ?_;rintro e w7 ⟨v7,rfl,o7,G7⟩;obtain ⟨a7,cap7,rfl⟩:=own_form o7;have B7:=G7.to_below B6 B6.size (fun k e=>by (have:=Kit.own_base O6.out k e;omega));have O7:=hid o7;clear o7))
   ·(exact bodyPost_ret (v:=.tuple #[.slice none 0 0,.int .i64 0,.int .i64 3]) (by simp [results,Tryz.results163,go_sem]) rfl (AdPost.no (HA2.out HF.out hbig) B7))
   ·(exact bodyPost_ret (v:=.tuple #[.slice a4 l.length cap4,.int .i64 r,.int .i64 0]) (by simp [results,Tryz.results163,go_sem]) rfl ⟨_,_,_,_,HA1.out r HF.out,rfl,ownC_mono O5.out (by omega),B5⟩)
  ·have hdb : decide (4096 < (M.length : Int)) = false:=by simp;omega
   go_enter Tryz.func163,Tryz.ntmps163
   go_wp2_with (first|(go_at_call 85;refine (HCk.out _ BLw).mono ?_;rintro e w1 ⟨er,hck,rfl,hb1⟩;obtain rfl:=CkIs.det hck H0.out;clear hck;have B1:=belows (B:=w.heap.size) (a:=w) ((Below.refl _ w).alloc (Nat.le_refl _) _) hb1 (by simp);have bx1:=(BX.new w #[.int .i64 c.t,.string c.s,.int .i64 c.n,.int .i64 c.a,.int .i64 c.b] 56).below hb1 (by simp);have c0:=bx1.cell 0;have c1:=bx1.cell 1;have c2:=bx1.cell 2;have c3:=bx1.cell 3;have c4:=bx1.cell 4;simp at c0 c1 c2 c3 c4)|(go_at_call 170;refine (HCe.out _ B1).mono ?_;rintro e w2 ⟨rfl,hb2⟩;have B2:=belows B1 hb2 B1.size;have bx2:=bx1.below hb2 bx1.sz;clear hb2)|(go_at_call 76;refine (HCl.out _ B2).mono ?_;rintro e w4 ⟨v4,rfl,o4,hb4⟩;obtain ⟨a4,cap4,rfl⟩:=own_form o4;have B4:=belows B2 hb4 B2.size;have bx4:=bx2.below hb4 bx2.sz;have hw2:=B2.size;have hs2:=bx2.sz;have d0:=bx4.cell 0;have d1:=bx4.cell 1;have d2:=bx4.cell 2;have d3:=bx4.cell 3;have d4:=bx4.cell 4;simp at d0 d1 d2 d3 d4;have O4:=hid o4;have hz4:=hb4.size;clear o4 hb4)|(go_at_call 93;refine (HFi.out _ B4).mono ?_;rintro e w5 ⟨r,b,hF,rfl,hb5⟩;have B5:=belows B4 hb5 B4.size;have bx5:=bx4.below hb5 bx4.sz;have O5:=hid (Kit.owns_below O4.out hb5 (Nat.le_refl _));have hz5:=hb5.size;have e0:=bx5.cell 0;have e1:=bx5.cell 1;have e2:=bx5.cell 2;have e3:=bx5.cell 3;have e4:=bx5.cell 4;simp at e0 e1 e2 e3 e4;clear hb5;have hr0:=HFF r b hF;have HF:=hid hF;clear hF;cases b;(obtain rfl:=hr0 rfl;clear hr0))|(at_builtin;refine wpList_append_own_at _ rfl (.tmp 37) (.tmp 39) 23 rfl w2.heap.size 56 i0 _ 5 48 Tryz.underlying23 hi hz0 hz1 hz2 rfl (by decide) _ _ _ rfl (World.ownsRow.alloc O5.out _) ⟨w5.heap.size,0,none⟩ 1 1 (cL Cp.C0) rfl rfl (news_c w5 Cp.C0) (ones_c _) (by unfold maxLen;omega) (by omega) (by simp only [World.size_alloc];omega) ?_;intro v6 w6 o6' hg6 _ hk6;have o6:=OwnC.snoc o6';rw [← HM2.out] at o6;have hg6s:=hg6.size;simp only [World.size_alloc] at hg6s;have B6:=(B5.alloc B5.size (.cells #[.int .i64 0,.string ⟨#[]⟩,.int .i64 0,.int .i64 0,.int .i64 0] 56)).grown hg6 (by simp only [World.size_alloc];omega) (fun k e=>by (have:=Kit.own_base O5.out k e;omega));have bx6:=(bx5.below ((Below.refl w5.heap.size w5).alloc (Nat.le_refl _) (.cells #[.int .i64 0,.string ⟨#[]⟩,.int .i64 0,.int .i64 0,.int .i64 0] 56)) bx5.sz).grown hg6 (fun e=>by (have:=Kit.own_base O5.out _ e;omega));have g0:=bx6.cell 0;have g1:=bx6.cell 1;have g2:=bx6.cell 2;have g3:=bx6.cell 3;have g4:=bx6.cell 4;simp at g0 g1 g2 g3 g4;obtain ⟨a6,cap6,rfl⟩:=own_form o6;have O6:=hid o6;clear o6 o6' hg6 hk6)|(go_at_call 187;refine (HAp.out _ _ _ O6.out (by omega)).mono ?_;rintro e w7 ⟨v7,rfl,o7,G7⟩;obtain ⟨a7,cap7,rfl⟩:=own_form o7;have B7:=G7.to_below B6 B6.size (fun k e=>by (have:=Kit.own_base O6.out k e;omega));have O7:=hid o7;clear o7))
   ·(exact bodyPost_ret (v:=.tuple #[.slice a7 M.length cap7,.int .i64 m.length,.int .i64 0]) (by simp [results,Tryz.results163,go_sem]) rfl ⟨_,_,_,_,HA3.out HF.out (by omega),rfl,ownC_mono O7.out (by omega),B7⟩)
   ·(exact bodyPost_ret (v:=.tuple #[.slice a4 l.length cap4,.int .i64 r,.int .i64 0]) (by simp [results,Tryz.results163,go_sem]) rfl ⟨_,_,_,_,HA1.out r HF.out,rfl,ownC_mono O5.out (by omega),B5⟩)
 ·have hd0 : ((l.length : Int) == 0) = false:=by rw [beq_eq_false_iff_ne];omega
  have hm2 : m = l:=by rw [hm];unfold hdP;rw [if_neg hl0]
  clear hm hl0
  subst m
  by_cases hbig : 4096 < M.length
  ·have hdb : decide (4096 < (M.length : Int)) = true:=by simp;omega
   go_enter Tryz.func163,Tryz.ntmps163
   go_wp2_with (first|(go_at_call 85;refine (HCk.out _ BLw).mono ?_;rintro e w1 ⟨er,hck,rfl,hb1⟩;obtain rfl:=CkIs.det hck H0.out;clear hck;have B1:=belows (B:=w.heap.size) (a:=w) ((Below.refl _ w).alloc (Nat.le_refl _) _) hb1 (by simp);have bx1:=(BX.new w #[.int .i64 c.t,.string c.s,.int .i64 c.n,.int .i64 c.a,.int .i64 c.b] 56).below hb1 (by simp);have c0:=bx1.cell 0;have c1:=bx1.cell 1;have c2:=bx1.cell 2;have c3:=bx1.cell 3;have c4:=bx1.cell 4;simp at c0 c1 c2 c3 c4)|(go_at_call 170;refine (HCe.out _ B1).mono ?_;rintro e w2 ⟨rfl,hb2⟩;have B2:=belows B1 hb2 B1.size;have bx2:=bx1.below hb2 bx1.sz;clear hb2)|(go_at_call 76;refine (HCl.out _ B2).mono ?_;rintro e w4 ⟨v4,rfl,o4,hb4⟩;obtain ⟨a4,cap4,rfl⟩:=own_form o4;have B4:=belows B2 hb4 B2.size;have bx4:=bx2.below hb4 bx2.sz;have hw2:=B2.size;have hs2:=bx2.sz;have d0:=bx4.cell 0;have d1:=bx4.cell 1;have d2:=bx4.cell 2;have d3:=bx4.cell 3;have d4:=bx4.cell 4;simp at d0 d1 d2 d3 d4;have O4:=hid o4;have hz4:=hb4.size;clear o4 hb4)|(go_at_call 93;refine (HFi.out _ B4).mono ?_;rintro e w5 ⟨r,b,hF,rfl,hb5⟩;have B5:=belows B4 hb5 B4.size;have bx5:=bx4.below hb5 bx4.sz;have O5:=hid (Kit.owns_below O4.out hb5 (Nat.le_refl _));have hz5:=hb5.size;have e0:=bx5.cell 0;have e1:=bx5.cell 1;have e2:=bx5.cell 2;have e3:=bx5.cell 3;have e4:=bx5.cell 4;simp at e0 e1 e2 e3 e4;clear hb5;have hr0:=HFF r b hF;have HF:=hid hF;clear hF;cases b;(obtain rfl:=hr0 rfl;clear hr0))|(go_at_call 187;refine (HAp.out _ _ _ O5.out (by omega)).mono ?_;rintro e w7 ⟨v7,rfl,o7,G7⟩;obtain ⟨a7,cap7,rfl⟩:=own_form o7;have B7:=G7.to_below B5 B5.size (fun k e=>by (have:=Kit.own_base O5.out k e;omega));have O7:=hid o7;clear o7))
   ·(exact bodyPost_ret (v:=.tuple #[.slice none 0 0,.int .i64 0,.int .i64 3]) (by simp [results,Tryz.results163,go_sem]) rfl (AdPost.no (HA2.out HF.out hbig) B7))
   ·(exact bodyPost_ret (v:=.tuple #[.slice a4 l.length cap4,.int .i64 r,.int .i64 0]) (by simp [results,Tryz.results163,go_sem]) rfl ⟨_,_,_,_,HA1.out r HF.out,rfl,ownC_mono O5.out (by omega),B5⟩)
  ·have hdb : decide (4096 < (M.length : Int)) = false:=by simp;omega
   go_enter Tryz.func163,Tryz.ntmps163
   go_wp2_with (first|(go_at_call 85;refine (HCk.out _ BLw).mono ?_;rintro e w1 ⟨er,hck,rfl,hb1⟩;obtain rfl:=CkIs.det hck H0.out;clear hck;have B1:=belows (B:=w.heap.size) (a:=w) ((Below.refl _ w).alloc (Nat.le_refl _) _) hb1 (by simp);have bx1:=(BX.new w #[.int .i64 c.t,.string c.s,.int .i64 c.n,.int .i64 c.a,.int .i64 c.b] 56).below hb1 (by simp);have c0:=bx1.cell 0;have c1:=bx1.cell 1;have c2:=bx1.cell 2;have c3:=bx1.cell 3;have c4:=bx1.cell 4;simp at c0 c1 c2 c3 c4)|(go_at_call 170;refine (HCe.out _ B1).mono ?_;rintro e w2 ⟨rfl,hb2⟩;have B2:=belows B1 hb2 B1.size;have bx2:=bx1.below hb2 bx1.sz;clear hb2)|(go_at_call 76;refine (HCl.out _ B2).mono ?_;rintro e w4 ⟨v4,rfl,o4,hb4⟩;obtain ⟨a4,cap4,rfl⟩:=own_form o4;have B4:=belows B2 hb4 B2.size;have bx4:=bx2.below hb4 bx2.sz;have hw2:=B2.size;have hs2:=bx2.sz;have d0:=bx4.cell 0;have d1:=bx4.cell 1;have d2:=bx4.cell 2;have d3:=bx4.cell 3;have d4:=bx4.cell 4;simp at d0 d1 d2 d3 d4;have O4:=hid o4;have hz4:=hb4.size;clear o4 hb4)|(go_at_call 93;refine (HFi.out _ B4).mono ?_;rintro e w5 ⟨r,b,hF,rfl,hb5⟩;have B5:=belows B4 hb5 B4.size;have bx5:=bx4.below hb5 bx4.sz;have O5:=hid (Kit.owns_below O4.out hb5 (Nat.le_refl _));have hz5:=hb5.size;have e0:=bx5.cell 0;have e1:=bx5.cell 1;have e2:=bx5.cell 2;have e3:=bx5.cell 3;have e4:=bx5.cell 4;simp at e0 e1 e2 e3 e4;clear hb5;have hr0:=HFF r b hF;have HF:=hid hF;clear hF;cases b;(obtain rfl:=hr0 rfl;clear hr0))|(go_at_call 187;refine (HAp.out _ _ _ O5.out (by omega)).mono ?_;rintro e w7 ⟨v7,rfl,o7,G7⟩;obtain ⟨a7,cap7,rfl⟩:=own_form o7;have B7:=G7.to_below B5 B5.size (fun k e=>by (have:=Kit.own_base O5.out k e;omega));have O7:=hid o7;clear o7))
   ·(exact bodyPost_ret (v:=.tuple #[.slice a7 M.length cap7,.int .i64 l.length,.int .i64 0]) (by simp [results,Tryz.results163,go_sem]) rfl ⟨_,_,_,_,HA3.out HF.out (by omega),rfl,ownC_mono O7.out (by omega),B7⟩)
   ·(exact bodyPost_ret (v:=.tuple #[.slice a4 l.length cap4,.int .i64 r,.int .i64 0]) (by simp [results,Tryz.results163,go_sem]) rfl ⟨_,_,_,_,HA1.out r HF.out,rfl,ownC_mono O5.out (by omega),B5⟩)
end Go.Proofs.YtnojgiflgmnjlaaGreatDoor.L3
