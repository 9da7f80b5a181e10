/- Own texts for the claim, part 7. -/
import Derived.Test.YtnojgiflgmnjlaaGreatDoorZM6
set_option maxRecDepth 100000
namespace Go.Proofs.YtnojgiflgmnjlaaGreatDoor.L3
open Go.RowKit
def encE (c : Cp.C) : List Int:=(c.t % 256) :: (bytesN c.s.size (Cp.wd c.t).1 ++ ((Cp.bl c.s).map fun b=>(b.toNat : Int)) ++ bytesN c.n (Cp.wd c.t).2.1 ++ bytesN c.a (Cp.wd c.t).2.2.1 ++ bytesN c.b (Cp.wd c.t).2.2.2)
theorem cf_write (u v x : Value) (w : World) : (callFunc 86 #[u,v,x]).run Tryz.prog w = .ok (.enter 86 #[u,v,x]) w:=by kernel_rfl
theorem strI (s : ByteArray) : Lib.strCells s = ((Cp.bl s).map fun b=>(b.toNat : Int)).map (Value.int .u8):=by
 unfold Lib.strCells Cp.bl
 rw [List.map_map]
 rfl
theorem OwnI.app {w : World} {base : Nat} {v : Value} {a : List Int} {s : ByteArray} (h : w.ownsRow base 5 1 v (a.length + s.size) (a.map (Value.int .u8) ++ Lib.strCells s)) : OwnI w base v (a ++ ((Cp.bl s).map fun b=>(b.toNat : Int))):=by
 unfold OwnI
 rw [List.length_append,List.map_append,List.length_map,bl_len,← strI]
 exact h
theorem OwnI.at_len {w : World} {base : Nat} {v : Value} {l : List Int} (h : OwnI w base v l) (n : Nat) (hn : l.length = n) : w.ownsRow base 5 1 v n (l.map (Value.int .u8)):=by
 subst hn
 exact h
theorem OwnI.app_len {w : World} {base : Nat} {v : Value} {a : List Int} {s : ByteArray} {n : Nat} (h : w.ownsRow base 5 1 v (n + s.size) (a.map (Value.int .u8) ++ Lib.strCells s)) (hn : a.length = n) : OwnI w base v (a ++ ((Cp.bl s).map fun b=>(b.toNat : Int))):=by
 subst hn
 exact OwnI.app h
theorem own_ne {w : World} {base : Nat} {v : Value} {l : List Int} (h : OwnI w base v l) : ∀ k,v.ownBlock = some k → k < w.heap.size:=Kit.own_lt h
theorem own_formI {w : World} {base : Nat} {v : Value} {l : List Int} (h : OwnI w base v l) (n : Nat) (hn : l.length = n) (hl : 0 < n) : ∃ g cap,v = .slice (some ⟨g,0,none⟩) n cap:=by
 subst hn
 rcases h.2 with ⟨-,h2⟩|⟨g,cap,cur,rfl,-⟩
 ·rw [h2] at hl
  exact absurd hl (by decide)
 ·exact ⟨g,cap,rfl⟩
structure WSt (w : World) (base : Nat) (v0 : Value) (C X : Array Value) (B1 : Nat) (W : World) (v : Value) (l : List Int) : Prop where
 own : OwnI W base v l
 gr : Kit.Grows w W v0 v
 bc : BX W w.heap.size C 56
 bx : BX W B1 X 169
 ne : ∀ k,v.ownBlock = some k → k ≠ w.heap.size ∧ k ≠ B1
 le : base ≤ W.heap.size
theorem WSt.step {w : World} {base : Nat} {v0 : Value} {C X : Array Value} {B1 : Nat} {W W' : World} {v v' : Value} {l l' : List Int} (h : WSt w base v0 C X B1 W v l) (ho : OwnI W' base v' l') (g : Kit.Grows W W' v v') : WSt w base v0 C X B1 W' v' l':=by
 refine ⟨ho,h.gr.trans g,h.bc.grown g.grown ?_,h.bx.grown g.grown ?_,?_,Nat.le_trans h.le g.size⟩
 ·intro e
  exact (h.ne _ e).1 rfl
 ·intro e
  exact (h.ne _ e).2 rfl
 ·intro k e
  have h1:=h.bc.sz
  have h2:=h.bx.sz
  rcases g.blk with e2|⟨j,hj,e2⟩
  ·rw [e2] at e
   exact h.ne k e
  ·rw [e2] at e
   have:=Option.some.inj e
   omega
theorem WSt.first {w w1 w2 : World} {base : Nat} {v v1 : Value} {l : List Int} {z : Int} {C X : Array Value} (hb : base ≤ w.heap.size) (hlt : ∀ k,v.ownBlock = some k → k < w.heap.size) (hbw : Below w.heap.size w w1) (hbx : BX w1 w.heap.size C 56) (ho : w2.ownsRow base 5 1 v1 (l.length + 1) (l.map (Value.int .u8) ++ [.int .u8 z])) (hg : ((w1.alloc (.cells X 169)).alloc (.cells #[.int .u8 z] 5)).grownBy w2 v.ownBlock) (hk : v1.ownBlock = v.ownBlock ∨ v1.ownBlock = some (w1.heap.size + 1 + 1)) : WSt w base v C X w1.heap.size w2 v1 (l ++ [z]):=by
 have hz:=hbw.size
 have h1:=hbx.sz
 have B1 : Below w.heap.size w ((w1.alloc (.cells X 169)).alloc (.cells #[.int .u8 z] 5)):=(hbw.alloc hz _).alloc (by simp;omega) _
 have hzg:=hg.size
 simp only [World.size_alloc] at hzg
 have bc1 : BX ((w1.alloc (.cells X 169)).alloc (.cells #[.int .u8 z] 5)) w.heap.size C 56:=hbx.below (((Below.refl w1.heap.size w1).alloc (Nat.le_refl _) _).alloc (by simp) _) h1
 have bx1 : BX ((w1.alloc (.cells X 169)).alloc (.cells #[.int .u8 z] 5)) w1.heap.size X 169:=(BX.new w1 X 169).below ((Below.refl (w1.heap.size + 1) _).alloc (by simp) _) (by omega)
 refine ⟨OwnI.snoc ho,Kit.grows_append B1 hg (by simpa using hk),bc1.grown hg ?_,bx1.grown hg ?_,?_,by omega⟩
 ·intro e
  have:=hlt _ e
  omega
 ·intro e
  have:=hlt _ e
  omega
 ·intro k e
  rcases hk with h|h
  ·rw [h] at e
   have:=hlt _ e
   omega
  ·rw [h] at e
   have:=Option.some.inj e
   omega
theorem WSt.drew {w : World} {base : Nat} {v0 : Value} {C X : Array Value} {B1 : Nat} {W : World} {v : Value} {l : List Int} (h : WSt w base v0 C X B1 W v l) : WSt w base v0 C X B1 W.drew v l :=
 ⟨World.ownsRow.drew h.own,⟨⟨h.gr.grown.os,h.gr.grown.tape,h.gr.grown.output,h.gr.grown.size,h.gr.grown.block⟩,h.gr.blk⟩,h.bc,h.bx,h.ne,h.le⟩
theorem WSt.cells {w : World} {base : Nat} {v0 : Value} {c0 c1 c2 c3 c4 x0 x1 x2 x3 : Value} {B1 : Nat} {W : World} {v : Value} {l : List Int} (h : WSt w base v0 #[c0,c1,c2,c3,c4] #[x0,x1,x2,x3] B1 W v l) :
  W.cell? ⟨w.heap.size,1,none⟩ = some c1 ∧ W.cell? ⟨w.heap.size,2,none⟩ = some c2 ∧ W.cell? ⟨w.heap.size,3,none⟩ = some c3 ∧ W.cell? ⟨w.heap.size,4,none⟩ = some c4 ∧ W.cell? ⟨B1,0,none⟩ = some x0 ∧ W.cell? ⟨B1,1,none⟩ = some x1 ∧ W.cell? ⟨B1,2,none⟩ = some x2 ∧ W.cell? ⟨B1,3,none⟩ = some x3 :=
 ⟨h.bc.cell 1,h.bc.cell 2,h.bc.cell 3,h.bc.cell 4,h.bx.cell 0,h.bx.cell 1,h.bx.cell 2,h.bx.cell 3⟩
set_option maxHeartbeats 2000000 in
theorem writeEntry_any (base : Nat) (l : List Int) (v : Value) (c : Cp.C) (w : World) (ht : Tabs w) (ho : OwnI w base v l) (hb : base ≤ w.heap.size) (hl : l.length ≤ 1000000000000) (hs : c.s.size ≤ 255) :
  Calls Tryz.prog 88 #[v,.agg (cC c)] w fun e w'=>∃ v',e = .returned v' ∧ OwnI w' base v' (l ++ encE c) ∧ Kit.Grows w w' v v':=by
 have HW0:=fun W (h : Below w.heap.size w W)=>widthsOf_z c.t W (ht.below h ht.size)
 obtain ⟨⟨x0,x1,x2,x3⟩,hx⟩ : ∃ x,x = Cp.wd c.t:=⟨_,rfl⟩
 have hwl:=wd_le c.t
 unfold encE
 rw [← hx] at HW0 hwl ⊢
 dsimp only at HW0 hwl ⊢
 have HW:=hid HW0
 have HO:=hid ho
 have HI:=info_parts infoB
 obtain ⟨i0,hi,hz0,hz1,hz2⟩:=HI
 have hlt:=hid (own_ne ho)
 unfold cC
 clear HW0 hx ho ht
 go_enter Tryz.func88,Tryz.ntmps88
 go_wp2_with (first|(go_at_call 144;refine (HW.out _ BLw).mono ?_;rintro e w1 ⟨rfl,hb1⟩;have hbx:=(BX.new w #[.int .i64 c.t,.string c.s,.int .i64 c.n,.int .i64 c.a,.int .i64 c.b] 56).below hb1 (by simp);have c0:=hbx.cell 0;simp at c0;have hz3:=hb1.size;simp only [World.size_alloc] at hz3;have hzw : w.heap.size < w1.heap.size:=(by omega);have hbw:=belows (B:=w.heap.size) (a:=w) ((Below.refl _ w).alloc (Nat.le_refl _) _) hb1 (by simp))|(at_builtin;refine wpList_append_own_at _ rfl (.tmp 13) (.tmp 17) 22 rfl base 5 i0 _ 1 1 Tryz.underlying22 hi hz0 hz1 hz2 rfl (by decide) _ _ _ rfl (World.ownsRow.alloc (World.ownsRow.alloc (Kit.owns_below (World.ownsRow.alloc HO.out _) hb1 (Nat.le_refl _)) _) _) ⟨w1.heap.size + 1,0,none⟩ 1 1 [.int .u8 (c.t % 256)] rfl rfl ?_ (Kit.ones_one rfl) (by unfold maxLen;omega) (by omega) (by simp only [World.size_alloc];omega) ?_))
 ·have hn:=Kit.news_one (w1.alloc (.cells #[.int .i64 x0,.int .i64 x1,.int .i64 x2,.int .i64 x3] 169)) (.int .u8 (c.t % 256)) 5;rw [World.size_alloc] at hn;exact hn
 ·intro v1 w2 ho1' hg1 _ hk1
  have hs1:=WSt.first hb hlt.out hbw hbx ho1' hg1 hk1
  obtain ⟨g1,cap1,rfl⟩:=own_formI hs1.own (l.length + 1) (by simp) (by omega)
  obtain ⟨d1,d2,d3,d4,y0,y1,y2,y3⟩:=hs1.cells
  clear ho1' hg1 hk1
  have hs1':=hs1.drew
  go_wp2
  go_region_law (first
   | (refine Kit.step_call3 rfl 86 (.tmp 19) (.tmp 22) (.tmp 24) 22 2 3 rfl _ (.int .i64 c.s.size) (.int .i64 x0) rfl rfl rfl (cf_write _ _ _ _) _ (write_any base _ _ c.s.size x0 _ hs1'.own hs1'.le (by simp;omega) (by omega)) ?_;rintro e w3 ⟨v3,rfl,ho3,G3⟩;have hs3:=hs1'.step ho3 G3;obtain ⟨g3,cap3,rfl⟩:=own_formI hs3.own (l.length + 1 + x0) (by simp [bytesN_len];omega) (by omega);obtain ⟨e1,e2,e3,e4,z0,z1,z2,z3⟩:=hs3.cells;refine ⟨_,rfl,?_⟩)
   | (have _g:=hs3;refine Kit.step_append_str rfl (.tmp 25) (.tmp 27) 22 9 rfl base 5 i0 Tryz.underlying22 Tryz.underlying9 hi hz0 hz1 hz2 g3 (l.length + 1 + x0) cap3 _ rfl (hs3.own.at_len (l.length + 1 + x0) (by simp [bytesN_len];omega)) c.s rfl (by unfold maxLen;omega) (by omega) hs3.le ?_;intro v4 w4 ho4' hg4 hk4;have hs4:=hs3.step (OwnI.app_len ho4' (by simp [bytesN_len];omega)) (Kit.grows_append (Below.refl _ _) hg4 hk4);obtain ⟨g4,cap4,rfl⟩:=own_formI hs4.own (l.length + 1 + x0 + c.s.size) (by simp [bytesN_len];omega) (by omega);obtain ⟨f1,f2,f3,f4,m0,m1,m2,m3⟩:=hs4.cells))
  all_goals go_wp2_with (first
   | (go_at_call 86;have _g:=hs6;(with_reducible refine (write_any base _ _ c.b x3 _ hs6.own hs6.le (by simp [bytesN_len];omega) (by omega)).mono ?_);rintro e w7 ⟨v7,rfl,ho7,G7⟩;have hs7:=hs6.step ho7 G7)
   | (go_at_call 86;have _g:=hs5;(with_reducible refine (write_any base _ _ c.a x2 _ hs5.own hs5.le (by simp [bytesN_len];omega) (by omega)).mono ?_);rintro e w6 ⟨v6,rfl,ho6,G6⟩;have hs6:=hs5.step ho6 G6;obtain ⟨i1,i2,i3,i4,o0,o1,o2,o3⟩:=hs6.cells)
   | (go_at_call 86;(with_reducible refine (write_any base _ _ c.n x1 _ hs4.own hs4.le (by simp [bytesN_len];omega) (by omega)).mono ?_);rintro e w5 ⟨v5,rfl,ho5,G5⟩;have hs5:=hs4.step ho5 G5;obtain ⟨h1,h2,h3,h4,n0,n1,n2,n3⟩:=hs5.cells))
  all_goals go_ret
  all_goals exact ⟨v7,rfl,by have:=hs7.own;simpa only [List.append_assoc,List.cons_append,List.nil_append,List.singleton_append] using this,hs7.gr⟩
end Go.Proofs.YtnojgiflgmnjlaaGreatDoor.L3
namespace Go.Proofs.YtnojgiflgmnjlaaGreatDoor.L3
open Go.RowKit
attribute [local go_sem] Oper.semAt_some
theorem owns_empty {w : World} {base : Nat} {e : TypeId} {size : Nat} (hB : base ≤ w.heap.size) : (w.alloc (.cells #[] e)).ownsRow base e size (.slice (some ⟨w.heap.size,0,none⟩) 0 0) 0 [] :=
 ⟨by simp,.inr ⟨w.heap.size,0,#[],rfl,hB,heap_alloc_last w _,by omega,by unfold maxLen;omega,by simp,by simp⟩⟩
def ClonePost (l : List Cp.C) (w : World) (en : Ending) (w' : World) : Prop:=∃ v,en = .returned v ∧ OwnC w' w.heap.size v l ∧ Below w.heap.size w w'
set_option maxHeartbeats 400000 in
theorem cclone_some (l : List Cp.C) (ad : Addr) (cap : Nat) (w : World) (hn : l.length * 48 ≤ 140737488355328) (hc : ∀ j u,(l.flatMap cL)[j]? = some u → w.cell? (ad.add j) = some u) : Calls Tryz.prog 76 #[.slice (some ad) l.length cap] w (ClonePost l w):=by
 obtain ⟨i0,hi,hz0,hz1,hz2⟩:=info_parts infoC
 have hnil:=fun (W : World) (a : Option Addr) (n c : Nat)=>Lib.run_eql_slice_nil (P:=Tryz.prog) W 23 56 a n c 0 0 Tryz.underlying23
 have hlt : ∀ j u,(l.flatMap cL)[j]? = some u → (w.alloc (.cells #[] 56)).cell? (ad.add j) = some u:=fun j u h=>by
  have h2:=hc j u h
  rw [World.cell?_alloc_lt _ _ _ (World.block_lt_of_cell? w _ h2)]
  exact h2
 have HL:=hid hlt
 have hlen : (l.flatMap cL).length = l.length * 5:=Kit.flat_len cL_len l
 have HLen:=hid hlen
 have h1c : ∀ u ∈ l.flatMap cL,u.oneCell' = true:=by
  intro u hu
  rw [List.mem_flatMap] at hu
  obtain ⟨b,-,hb⟩:=hu
  exact ones_c b u hb
 have H1:=hid h1c
 clear hc hlt hlen h1c
 go_enter Tryz.func76,Tryz.ntmps76
 go_wp2_with (at_builtin;go_loud (refine wpList_append_own _ rfl (.tmp 5) (.tmp 6) 23 rfl w.heap.size 56 i0 _ 5 48 Tryz.underlying23 hi hz0 hz1 hz2 rfl (by decide) _ 0 [] rfl (owns_empty (Nat.le_refl _)) ad l.length cap (l.flatMap cL) rfl HLen.out HL.out H1.out (by unfold maxLen;omega) (by omega) (by simp) ?_);intro v1 w1 hown1 hgrow1 _)
 go_ret
 refine ⟨_,rfl,by unfold OwnC;simpa using hown1,Kit.below_grown BLw hgrow1 (by simp) (fun k hk=>?_)⟩
 have : some w.heap.size = some k:=hk
 exact Nat.le_of_eq (Option.some.inj this)
theorem cclone_nil (c : Nat) (w : World) : Calls Tryz.prog 76 #[.slice none 0 c] w (ClonePost [] w):=by
 have hnil:=fun (W : World) (a : Option Addr) (n c : Nat)=>Lib.run_eql_slice_nil (P:=Tryz.prog) W 23 56 a n c 0 0 Tryz.underlying23
 go_enter Tryz.func76,Tryz.ntmps76
 go_wp2
 go_ret
 exact ⟨_,rfl,⟨rfl,.inl ⟨rfl,rfl⟩⟩,BLw⟩
theorem cclone_any (l : List Cp.C) (v : Value) (w : World) (hl : Kit.IsS 5 w v l.length (l.flatMap cL)) (hn : l.length * 48 ≤ 140737488355328) : Calls Tryz.prog 76 #[v] w (ClonePost l w):=by
 rcases hl.2.2 with ⟨h0,a,cap,rfl⟩|⟨b,o,cap,rfl,hl,hlt,hc⟩
 ·obtain rfl:=List.length_eq_zero_iff.1 h0
  cases a with
  | none=>exact cclone_nil cap w
  | some ad=>exact cclone_some [] ad cap w (by simp) (fun j u h=>by simp at h)
 ·exact cclone_some l ⟨b,o,none⟩ cap w hn (fun j u h=>by rw [Go.WideShapes.add_plain];exact hc j u h)
def Kp (lo hi : Nat) (A B : World) : Prop:=A.heap.size ≤ B.heap.size ∧ ∀ k,lo ≤ k → k < hi → B.heap[k]? = A.heap[k]?
theorem Kp.refl (lo hi : Nat) (A : World) : Kp lo hi A A:=⟨Nat.le_refl _,fun _ _ _=>rfl⟩
theorem Kp.trans {lo hi : Nat} {A B C : World} (h : Kp lo hi A B) (k : Kp lo hi B C) : Kp lo hi A C:=⟨Nat.le_trans h.1 k.1,fun i h1 h2=>(k.2 i h1 h2).trans (h.2 i h1 h2)⟩
theorem Kp.below {lo hi n : Nat} {A B C : World} (h : Kp lo hi A B) (hb : Below n B C) (hn : hi ≤ n) : Kp lo hi A C:=h.trans ⟨hb.size,fun i _ h2=>hb.block i (by omega)⟩
theorem Kp.grown {lo hi : Nat} {A B C : World} {row : Option Nat} (h : Kp lo hi A B) (hg : B.grownBy C row) (hh : hi ≤ B.heap.size) (hr : ∀ k,row = some k → k < lo ∨ hi ≤ k) : Kp lo hi A C :=
 h.trans ⟨hg.size,fun i h1 h2=>hg.block i (by omega) (fun e=>by have:=hr i e.symm;omega)⟩
theorem Kp.putObj {lo hi : Nat} {w : World} (hn : hi ≤ w.heap.size) (W : World) (l : Nat) (o o' : Obj) (hl : w.heap.size ≤ l) (h : W.heap[l]? = some o) (_ : o.isCells = false) (_ : o.isWalk = false) : Kp lo hi W (W.putObj l o') :=
 (Kp.refl lo hi W).grown (grownBy_putObj' W l o') (by have:=(Array.getElem?_eq_some_iff.1 h).1;omega) (fun k e=>by cases e;omega)
def AllPost (l : List Cp.C) (w : World) (e : Ending) (w' : World) : Prop :=
 ∃ v,e = .returned (.func (.func 143) #[] #[.pointer (some ⟨w.heap.size,0,none⟩)]) ∧ (∀ X,Kp w.heap.size w'.heap.size w' X → Kit.IsS 5 X v l.length (l.flatMap cL) ∧ X.cell? ⟨w.heap.size,0,none⟩ = some v) ∧ Below w.heap.size w w' ∧ w.heap.size < w'.heap.size
theorem owns_at {w w' : World} {base : Nat} {e : TypeId} {size : Nat} {v : Value} {n : Nat} {xs : List Value} (h : w.ownsRow base e size v n xs) (hk : ∀ k,base ≤ k → k < w.heap.size → w'.heap[k]? = w.heap[k]?) : w'.ownsRow base e size v n xs:=by
 refine ⟨h.1,?_⟩
 rcases h.2 with h2|⟨g,cap,cur,hv,hg,hh,k⟩
 ·exact .inl h2
 ·exact .inr ⟨g,cap,cur,hv,hg,(hk g hg (Array.getElem?_eq_some_iff.1 hh).1).trans hh,k⟩
theorem all_any (l : List Cp.C) (v : Value) (w : World) (hl : Kit.IsS 5 w v l.length (l.flatMap cL)) (hn : l.length * 48 ≤ 140737488355328) : Calls Tryz.prog 87 #[v] w (AllPost l w):=by
 have HB:=hid (fun X (h : Below w.heap.size w X)=>hl.below h (Nat.le_refl _))
 obtain ⟨a,cap,hv⟩:=hl.len
 subst hv
 clear hl
 go_enter Tryz.func87,Tryz.ntmps87
 go_wp2_with (go_at_call 76;refine (cclone_any l _ _ (HB.out _ BLw) hn).mono ?_;rintro e w1 ⟨v1,rfl,o1,hb1⟩;obtain ⟨a1,cap1,hv1⟩:=(Kit.isS_of_owns o1 (by omega)).len;subst hv1;obtain ⟨hcc,hff⟩:=bcell hb1;have hz1:=hb1.size;simp only [World.size_alloc] at hz1)
 go_ret
 have hbox : Boxed w1 w.heap.size 23 (.slice a l.length cap):=(hb1.block w.heap.size (by simp)).trans (Boxed.new w _ _)
 have hb2:=(belows (a:=w) (B:=w.heap.size) (b:=w.alloc (.cells #[.slice a l.length cap] 23)) BLw hb1 (by simp)).setCell (p:=⟨w.heap.size,0,none⟩) (Nat.le_refl _) (.slice a1 l.length cap1)
 have hbx2:=hbox.set (.slice a1 l.length cap1)
 have o2 : OwnC (w1.setCell ⟨w.heap.size,0,none⟩ (.slice a1 l.length cap1)) (w.heap.size + 1) (.slice a1 l.length cap1) l:=owns_at (by have h9:=o1;unfold OwnC at h9;simpa using h9) (fun k h1 _=>Below.heap_setCell _ _ _ k (fun e=>by have : k = w.heap.size:=e;omega))
 have hsz : (w1.setCell ⟨w.heap.size,0,none⟩ (.slice a1 l.length cap1)).heap.size = w1.heap.size:=by simp
 refine ⟨_,rfl,fun X hX=>⟨Kit.isS_of_owns (owns_at o2 fun k h1 h2=>hX.2 k (by omega) h2) (by omega),?_⟩,hb2,by omega⟩
 have h3:=hX.2 w.heap.size (Nat.le_refl _) (by omega)
 have h4 : Boxed X w.heap.size 23 (.slice a1 l.length cap1):=h3.trans hbx2
 exact h4.cell
abbrev Tx (l : List Cp.C):={ x : Nat × Cp.C // l[x.1]? = some x.2 ∧ x.2.t ≠ 0 }
def told (l : List Cp.C) : Nat → List (Tx l)
 | 0=>[]
 | k + 1=>told l k ++ (match h : l[k]? with|some c=>if hc : c.t = 0 then [] else [⟨(k,c),h,hc⟩]|none=>[])
theorem told_yes {l : List Cp.C} {k : Nat} {c : Cp.C} (h : l[k]? = some c) (hc : c.t ≠ 0) : told l (k + 1) = told l k ++ [⟨(k,c),h,hc⟩]:=by
 show told l k ++ _ = _
 congr 1
 split
 ·rename_i d hd
  obtain rfl:=Option.some.inj (hd.symm.trans h)
  rw [dif_neg hc]
 ·rename_i hd
  rw [hd] at h
  cases h
theorem told_no {l : List Cp.C} {k : Nat} {c : Cp.C} (h : l[k]? = some c) (hc : c.t = 0) : told l (k + 1) = told l k:=by
 show told l k ++ _ = _
 split
 ·rename_i d hd
  obtain rfl:=Option.some.inj (hd.symm.trans h)
  rw [dif_pos hc,List.append_nil]
 ·rw [List.append_nil]
theorem told_len (l : List Cp.C) : ∀ k,(told l k).length ≤ k
 | 0=>Nat.le_refl _
 | k + 1=>by
  show (told l k ++ _).length ≤ _
  have:=told_len l k
  rw [List.length_append]
  split
  ·split <;> simp <;> omega
  ·simp;omega
def entE {l : List Cp.C} (x : Tx l) : Array Value:=#[.int .i64 (x.1.1 : Int),.agg (cC x.1.2)]
theorem abides_new {β : Type} {B : Nat} {J : β → World → Prop} (h : AbidesFrom B J) {s : β} {W W' : World} (hs : J s W) (hb : Below W.heap.size W W') : J s W' :=
 h s W W' none hs ⟨hb.os,hb.tape,hb.output,hb.size,fun i hi _=>hb.block i hi⟩ (fun r e=>by cases e)
set_option maxHeartbeats 2000000 in
theorem all1_stops (l : List Cp.C) (v : Value) (lo Bs n : Nat) (w : World) (hn : 1 ≤ n) (hb : ∀ X,Kp lo w.heap.size w X → Kit.IsS 5 X v l.length (l.flatMap cL) ∧ X.cell? ⟨Bs,0,none⟩ = some v) :
  SeqStopsK Fence.wide n Tryz.prog 143 #[.pointer (some ⟨Bs,0,none⟩)] entE (Kp lo w.heap.size) (fun ys=>ys = told l l.length) (fun ys=>∃ k,k ≤ l.length ∧ ys = told l k) l.length w:=fun D J Jx W hW hJ _ hY h0=>by
 have HB:=hid hb
 obtain ⟨a,cap,hv⟩:=(hb w (Kp.refl _ _ _)).1.len
 subst hv
 have hlen:=(hb w (Kp.refl _ _ _)).1.2.1
 have hKW : Kp lo w.heap.size w W:=(Kp.refl _ _ _).below hW (Nat.le_refl _)
 have hcW:=(hb W hKW).2
 clear hb
 refine callsIn_of_wp Tryz.func143 rfl trivial ?_ rfl
 simp only [Tryz.ntmps143,List.size_toArray,List.length_cons,List.length_nil,Nat.reduceAdd,Nat.reduceSub,Array.replicate_succ,Array.replicate_zero,List.push_toArray,List.append_toArray,List.nil_append,List.cons_append]
 gi_wp2
 gi_loopw [7] (fun i wr=>∃ k : Nat,k ≤ l.length ∧ i = .int .i64 k ∧ J (told l k) wr ∧ W.heap.size ≤ wr.heap.size ∧ Kp lo w.heap.size w wr) (fun i _=>l.length - (intOf i).toNat)
 case atStart=>exact ⟨0,by omega,rfl,h0,Nat.le_refl _,hKW⟩
 case round =>
  obtain ⟨k,hk,rfl,hJs,hzW,hbl⟩:=hrel
  have hzr:=hbl.1
  by_cases hlt : k < l.length
  ·obtain ⟨⟨ct,cs,cn,ca,cb⟩,hx⟩ : ∃ x,l[k]? = some x:=⟨l[k],List.getElem?_eq_getElem hlt⟩
   obtain ⟨b,o,cap',hv,hbb,c0,c1,c2,c3,c4⟩:=c_at (HB.out wr hbl).1 hx
   obtain ⟨rfl,-,rfl⟩:=Value.slice.inj hv
   dsimp only at c0 c1 c2 c3 c4
   have hki : (k : Int) < (l.length : Int):=by omega
   by_cases ht : ct = 0
   ·have HT:=hid (told_no hx ht)
    have hb1 : (ct != 0) = false:=by simpa using ht
    have HJ:=hid (fun X (h : Below wr.heap.size wr X)=>abides_new hJ hJs h)
    clear hx hv ht
    gi_wp2
    refine ⟨fun _ h=>(by cases h),?_⟩
    gi_wp2
    go_roundw
    case rel=>exact ⟨k + 1,by omega,by go_num,by rw [HT.out];exact HJ.out _ BLw,by simp only [World.size_alloc];omega,hbl.below ((Below.refl wr.heap.size wr).alloc (Nat.le_refl _) _) hzr⟩
    case measure=>simp [intOf];omega
   ·have HT:=hid (told_yes hx ht)
    have hb1 : (ct != 0) = true:=by simpa using ht
    have hln : (told l k).length < l.length:=by have:=told_len l k;omega
    have HY:=hid (fun X (h : Below wr.heap.size wr X)=>hY (told l k) ⟨(k,⟨ct,cs,cn,ca,cb⟩),hx,ht⟩ X (abides_new hJ hJs h) hln)
    clear hv
    obtain ⟨fn,tmps,assign,body,hy,hR⟩:=HY.out (wr.alloc (.cells #[.int .i64 ct,.string cs,.int .i64 cn,.int .i64 ca,.int .i64 cb] 56)) BLw
    unfold entE cC at hy
    dsimp only at hy
    gi_wp2
    refine hR.mono ?_
    rintro e W3 (⟨rfl,hJ3,hk3⟩|⟨rfl,hJx3⟩)
    ·gi_wp2
     go_roundw
     case rel=>exact ⟨k + 1,by omega,by go_num,by rw [HT.out];exact hJ3,(by have:=hk3.1;simp only [World.size_alloc] at this;omega),(hbl.below ((Below.refl wr.heap.size wr).alloc (Nat.le_refl _) _) hzr).trans hk3⟩
     case measure=>simp [intOf];omega
    ·gi_wp2
     refine bodyPost_ret (results_none rfl _ _ _) rfl ?_
     exact ⟨⟨_,rfl⟩,.inr ⟨_,⟨k + 1,by omega,HT.out.symm⟩,hJx3⟩⟩
  ·obtain rfl : k = l.length:=by omega
   gi_wp2
   refine bodyPost_end (results_none rfl _ _ _) rfl ?_
   exact ⟨⟨_,rfl⟩,.inl ⟨_,rfl,hJs⟩⟩
end Go.Proofs.YtnojgiflgmnjlaaGreatDoor.L3
namespace Go.Proofs.YtnojgiflgmnjlaaGreatDoor.L3
open Go.RowKit
attribute [local go_sem] Oper.semAt_some
def encT {l : List Cp.C} (ys : List (Tx l)) : List Int:=ys.flatMap fun x=>encE x.1.2
theorem encT_snoc {l : List Cp.C} (ys : List (Tx l)) (x : Tx l) : encT (ys ++ [x]) = encT ys ++ encE x.1.2:=by
 unfold encT
 rw [List.flatMap_append]
 simp
def putB (l : List Cp.C) : List Int:=bytesN l.length 2 ++ encT (told l l.length)
theorem encE_len (c : Cp.C) (h : c.s.size ≤ 255) : (encE c).length ≤ 300:=by
 unfold encE
 have:=wd_le c.t
 simp only [List.length_cons,List.length_append,List.length_map,bytesN_len,bl_len]
 omega
theorem ck_size {l : List Cp.C} (h : CkIs l 0) : l.length ≤ 4096 ∧ ∀ (x : Tx l),ceOut x.1.2 = 0:=by
 rcases h with ⟨-,h⟩|⟨h1,⟨-,h⟩|⟨-,-,-,h,-⟩⟩
 ·omega
 ·refine ⟨h1,fun x=>?_⟩
  obtain ⟨⟨k,c⟩,hx,ht⟩:=x
  dsimp only at hx ht ⊢
  have hk : k < l.length:=by rw [List.getElem?_eq_some_iff] at hx;exact hx.1
  have h2:=h k hk
  unfold errAt at h2
  rw [hx] at h2
  dsimp only at h2
  by_cases hp : prevB l k = true
  ·rw [if_pos hp] at h2
   by_cases hc : c = Cp.C0
   ·rw [hc] at ht
    exact absurd rfl ht
   ·rw [if_neg hc] at h2
    omega
  ·rw [if_neg hp] at h2
   by_cases hl : c.t = 5 ∧ k = l.length - 1
   ·rw [if_pos hl] at h2
    omega
   ·rw [if_neg hl] at h2
    exact h2
 ·exact absurd rfl h
theorem ce_size {c : Cp.C} (h : ceOut c = 0) : Cp.knownB c.t = true ∧ cutW c (Cp.wd c.t) = c ∧ c.s.size ≤ 255 ∧ Cp.plainB (Cp.bl c.s) = true:=by
 unfold ceOut at h
 by_cases h1 : Cp.knownB c.t = false ∨ cutW c (Cp.wd c.t) ≠ c
 ·rw [if_pos h1] at h
  omega
 ·rw [if_neg h1] at h
  by_cases h2 : 255 < c.s.size ∨ Cp.plainB (Cp.bl c.s) = false
  ·rw [if_pos h2] at h
   omega
  ·refine ⟨?_,?_,?_,?_⟩
   ·cases h3 : Cp.knownB c.t
    ·exact absurd (.inl h3) h1
    ·rfl
   ·exact Decidable.of_not_not fun h3=>h1 (.inr h3)
   ·exact Nat.le_of_not_lt fun h3=>h2 (.inl h3)
   ·cases h3 : Cp.plainB (Cp.bl c.s)
    ·exact absurd (.inr h3) h2
    ·rfl
theorem encT_len {l : List Cp.C} (h : ∀ (x : Tx l),ceOut x.1.2 = 0) : ∀ ys : List (Tx l),(encT ys).length ≤ 300 * ys.length
 | []=>by simp [encT]
 | x :: ys=>by
  have h1:=encT_len h ys
  have h2:=encE_len x.1.2 (ce_size (h x)).2.2.1
  unfold encT at h1 ⊢
  rw [List.flatMap_cons,List.length_append,List.length_cons]
  omega
def PutPost (l : List Cp.C) (w : World) (e : Ending) (w' : World) : Prop :=
 ∃ er,CkIs l er ∧ (er ≠ 0 → e = .returned (.tuple #[.slice none 0 0,.int .i64 er])) ∧ (er = 0 → ∃ v,e = .returned (.tuple #[v,.int .i64 0]) ∧ OwnI w' w.heap.size v (putB l)) ∧ Below w.heap.size w w'
theorem own_others {w w' : World} {base : Nat} {v v' : Value} {l : List Int} (h : OwnI w base v l) (g : Kit.Grows w w' v v') : KeepsOthers w w':=by
 refine ⟨g.size,fun k o hk ho=>?_⟩
 refine (g.grown.block k (Array.getElem?_eq_some_iff.1 hk).1 ?_).trans hk
 intro e
 rcases h.2 with ⟨rfl,-⟩|⟨b,cap,cur,rfl,hg,hh,-⟩
 ·simp [Value.ownBlock] at e
 ·simp only [Value.ownBlock,Option.some.injEq] at e
  subst e
  rw [hh] at hk
  obtain rfl:=Option.some.inj hk
  simp [Obj.isCells] at ho
theorem ownI_own {β : Type} (base : Nat) (v : β → Value) (l : β → List Int) : Own (fun s W=>OwnI W base (v s) (l s)):=fun s X Y row hs hg hr=>by
 refine World.ownsRow.kept hs hg ?_
 rcases hs.2 with ⟨h1,-⟩|⟨b,cap,cur,h1,hb,hh,-⟩
 ·rw [h1]
  exact .inl rfl
 ·rw [h1]
  refine .inr fun e=>?_
  obtain ⟨o,ho,hc⟩:=hr b (by rw [← e];rfl)
  rw [hh] at ho
  obtain rfl:=Option.some.inj ho
  simp [Obj.isCells] at hc
def PutI (l : List Cp.C) (B5 lo hi : Nat) (w : World) (pre : List (Tx l)) (W : World) : Prop :=
 ∃ u,Boxed W B5 22 u ∧ OwnI W w.heap.size u (bytesN l.length 2 ++ encT pre) ∧ (∀ k,u.ownBlock = some k → k ≠ B5 ∧ (k < lo ∨ hi ≤ k)) ∧ Below w.heap.size w W ∧ hi ≤ W.heap.size
theorem PutI.own {l : List Cp.C} {B5 lo hi n : Nat} {w : World} (hn : w.heap.size ≤ n) : OwnFrom n (PutI l B5 lo hi w):=by
 rintro pre A B row ⟨u,h1,h2,h3,h4,h5⟩ hg hr
 exact ⟨u,boxed_own _ _ (fun _ : Unit=>u) () A B row h1 hg (fun r e=>(hr r e).2),ownI_own _ (fun _ : Unit=>u) (fun _=>_) () A B row h2 hg (fun r e=>(hr r e).2),h3,h4.grown hg h4.size (fun k e=>by have:=(hr k e).1;omega),Nat.le_trans h5 hg.size⟩
theorem PutI.next {l : List Cp.C} {B5 lo hi : Nat} {w W W1 : World} {u u1 : Value} {L : List Int} {pre : List (Tx l)} {x : Tx l} (i5 : Boxed W B5 22 u) (ho : OwnI W w.heap.size u L) (hne : ∀ k,u.ownBlock = some k → k ≠ B5 ∧ (k < lo ∨ hi ≤ k))
  (hB : Below w.heap.size w W) (hh : hi ≤ W.heap.size) (hlo : B5 < lo) (hb5 : w.heap.size ≤ B5) (hL : L = bytesN l.length 2 ++ encT pre) (ho1 : OwnI W1 w.heap.size u1 (L ++ encE x.1.2)) (G : Kit.Grows W W1 u u1) :
  KeepsOthers W (W1.setCell ⟨B5,0,none⟩ u1) ∧ Kp lo hi W (W1.setCell ⟨B5,0,none⟩ u1) ∧ PutI l B5 lo hi w (pre ++ [x]) (W1.setCell ⟨B5,0,none⟩ u1):=by
 have h5 : B5 < W.heap.size:=(Array.getElem?_eq_some_iff.1 i5).1
 have hz:=G.size
 have i5' : Boxed W1 B5 22 u:=(G.grown.block B5 h5 (fun e=>(hne B5 e.symm).1 rfl)).trans i5
 have hne1 : ∀ k,u1.ownBlock = some k → k ≠ B5 ∧ (k < lo ∨ hi ≤ k):=by
  intro k e
  rcases G.blk with e2|⟨j,hj,e2⟩
  ·rw [e2] at e
   exact hne k e
  ·rw [e2] at e
   have:=Option.some.inj e
   omega
 refine ⟨(own_others ho G).trans (KeepsOthers.setCell _ _ _),((Kp.refl lo hi W).grown G.grown hh (fun k e=>(hne k e).2)).grown (grownBy_setCell' W1 ⟨B5,0,none⟩ u1) (by omega) (fun k e=>by cases e;exact .inl hlo),u1,i5'.set _,?_,hne1,?_,by rw [show (W1.setCell ⟨B5,0,none⟩ u1).heap.size = W1.heap.size by simp];omega⟩
 ·rw [encT_snoc,← List.append_assoc,← hL]
  refine World.ownsRow.kept ho1 (grownBy_setCell' W1 ⟨B5,0,none⟩ u1) (.inr fun e=>?_)
  exact (hne1 B5 e).1 rfl
 ·exact (G.to_below hB hB.size (fun k e=>Kit.own_base ho k e)).setCell (p:=⟨B5,0,none⟩) hb5 _
set_option maxHeartbeats 2000000 in
theorem put_any (l : List Cp.C) (v : Value) (w : World) (ht : Tabs w) (hv : Kit.IsS 5 w v l.length (l.flatMap cL)) (hs : ∀ c ∈ l,c.s.size ≤ 140737488355328) : Calls Tryz.prog 44 #[v] w (PutPost l w):=by
 have hs0:=ht.size
 have HCk:=hid (fun W (h : Below w.heap.size w W)=>check_any l v W (ht.below h ht.size) (hv.below h (Nat.le_refl _)) hs)
 have HT:=hid (fun W (h : Below w.heap.size w W)=>ht.below h ht.size)
 have HV:=hid (fun W (h : Below w.heap.size w W)=>hv.below h (Nat.le_refl _))
 obtain ⟨a,cap,hv2⟩:=hv.len
 subst hv2
 have hlen:=hv.2.1
 clear ht hv hs
 by_cases h0 : CkIs l 0
 case neg =>
  have H0:=hid h0
  clear h0
  go_enter Tryz.func44,Tryz.ntmps44
  go_wp2_with (go_at_call 85;refine (HCk.out _ BLw).mono ?_;rintro e w1 ⟨er,hck,rfl,hb1⟩;have hne : (er != 0) = true:=(by (simp;rintro rfl;exact H0.out hck));have HK:=hid hck;clear hck)
  go_ret2
  exact ⟨er,HK.out,fun _=>rfl,fun h=>absurd (h ▸ HK.out) H0.out,BLw⟩
 case pos =>
 have HS:=hid (ck_size h0)
 have H0:=hid h0
 have hl4:=HS.out.1
 clear h0
 refine (callsIn_wide (n:=5)).1 ?_
 refine callsIn_of_wp_marks Tryz.func44 rfl trivial ?_ rfl
 simp only [Tryz.ntmps44,List.size_toArray,List.length_cons,List.length_nil,Nat.reduceAdd,Nat.reduceSub,Array.replicate_succ,Array.replicate_zero,List.push_toArray,List.append_toArray,List.nil_append,List.cons_append]
 gi_wp2_with (first
  | (refine ⟨trivial,?_⟩;gi_at_call 85;refine (callsIn_wide.2 (HCk.out _ BLw)).mono ?_;rintro e w1 ⟨er,hck,rfl,hb1⟩;obtain rfl:=CkIs.det hck H0.out;clear hck;have hz1:=hb1.size)
  | (refine ⟨trivial,?_⟩;gi_at_call 86;refine (callsIn_wide.2 (write_any w.heap.size [] _ l.length 2 w1 (nilI _ _) hz1 (by simp) (by omega))).mono ?_;rintro e w2 ⟨v2,rfl,ho2,G2⟩;rw [List.nil_append] at ho2;have hb2:=G2.to_below hb1 hz1 (by intro k hk;simp [Value.ownBlock] at hk);have hz2:=hb2.size;obtain ⟨g2,cap2,rfl⟩:=own_formI ho2 2 (bytesN_len _ _) (by decide))
  | (refine ⟨trivial,?_⟩;gi_at_call 87;refine (callsIn_wide.2 (all_any l _ _ (HV.out _ BLw) (by omega))).mono ?_;rintro e w3 ⟨v3,rfl,hX,hb3,hz3⟩))
 have j5 : Boxed w3 w2.heap.size 22 (.slice (some ⟨g2,0,none⟩) 2 cap2):=(hb3.block w2.heap.size (by simp)).trans (Boxed.new w2 _ _)
 have hb3':=hb3
 simp only [World.size_alloc] at hb3' hz3 hX
 have o3 : OwnI w3 w.heap.size (.slice (some ⟨g2,0,none⟩) 2 cap2) (bytesN l.length 2):=Kit.owns_below (World.ownsRow.alloc ho2 _) hb3 (Nat.le_refl _)
 have hg2:=Kit.own_lt ho2
 have hB3 : Below w.heap.size w w3:=belows (hb2.alloc hz2 _) hb3 (by simp only [World.size_alloc];omega)
 have HW:=hid (fun (x : Tx l)=>(ce_size (HS.out.2 x)).2.2.1)
 have HL:=hid (encT_len HS.out.2)
 have hkX : Hid (∀ X,Kp (w2.heap.size + 1) w3.heap.size w3 X → Kit.IsS 5 X v3 l.length (l.flatMap cL) ∧ X.cell? ⟨w2.heap.size + 1,0,none⟩ = some v3):=hX
 have hB3z:=hB3.size
 clear hX hb1 hb2 hb3 hb3' ho2 G2
 refine wpIn_rangeFunc_ownH rfl (by omega) (gf:=143) (lb:=#[.pointer (some ⟨w2.heap.size + 1,0,none⟩)]) rfl trivial (enters_of Tryz.func143 (by kernel_rfl) rfl)
  (all1_stops l v3 (w2.heap.size + 1) (w2.heap.size + 1) (5 - 1) w3 (by omega) hkX.out) (fun h k=>Kp.trans h k) (Kp.putObj (Nat.le_refl _)) (Below.refl _ _) (fun _=>rfl)
  (PutI l w2.heap.size (w2.heap.size + 1) w3.heap.size w) (fun _ _ _=>False) (PutI.own hB3.size) (fun _ _ _ _ _ h _ _=>h)
  ⟨_,j5,by simpa [encT] using o3,fun k e=>?_,hB3,Nat.le_refl _⟩
  (fun x a' W=>∃ Bx,w3.heap.size ≤ Bx ∧ BX W Bx (cC x.1.2) 56 ∧ a' = { tmps:=#[.slice a l.length cap,undef,.slice none 0 0,.int .i64 0,.int .i64 0,.pointer (some ⟨w2.heap.size,0,none⟩),undef,.pointer (some ⟨Bx,0,none⟩),.slice a l.length cap,.int .i64 0,.int .i64 0,.bool false,undef,.slice a l.length cap,.int .i64 l.length,.slice (some ⟨g2,0,none⟩) 2 cap2,.slice a l.length cap,.func (.func 143) #[] #[.pointer (some ⟨w2.heap.size + 1,0,none⟩)],.int .i64 (x.1.1 : Int),.agg (cC x.1.2),undef,undef,undef,undef],defers:=[] })
  (fun x a'=>Own.from (fun s A B row hs hg hr=>by
   obtain ⟨Bx,h1,h2,h3⟩:=hs
   exact ⟨Bx,h1,(hg.block Bx h2.sz (fun e=>by obtain ⟨o,ho,hc⟩:=hr Bx e.symm;rw [show A.heap[Bx]? = _ from h2] at ho;cases ho;cases hc)).trans h2,h3⟩) _) ?assign ?body ?done ?stop
 case assign =>
  rintro D pre ⟨⟨k,ct,cs,cn,ca,cb⟩,hx⟩ W K hI hK
  unfold entE cC
  gi_wp2
  exact hK _ _ ((KeepsOthers.alloc _ _).from _) ((Kp.refl _ _ W).below ((Below.refl W.heap.size W).alloc (Nat.le_refl _) _) (by obtain ⟨u,-,-,-,-,h⟩:=hI;exact h)) ((PutI.own hB3.size).alloc _ hI) ⟨W.heap.size,(by obtain ⟨u,-,-,-,-,h⟩:=hI;exact h),BX.new W _ _,rfl⟩
 case body =>
  rintro D pre ⟨⟨k,ct,cs,cn,ca,cb⟩,hx⟩ a' W hl ⟨r,hr⟩ ⟨u,i5,ho,hne,hB,hh⟩ ⟨Bx,hBx,bX,rfl⟩ hlt
  have hlb:=HL.out pre
  have hcs:=HW.out ⟨(k,⟨ct,cs,cn,ca,cb⟩),hx⟩
  have H2 : (bytesN (l.length : Int) 2).length = 2:=bytesN_len _ _
  obtain ⟨L,hL⟩ : ∃ L,L = bytesN l.length 2 ++ encT pre:=⟨_,rfl⟩
  have hLl : L.length = 2 + (encT pre).length:=by rw [hL,List.length_append,H2]
  rw [← hL] at ho
  obtain ⟨n,hn⟩ : ∃ n,L.length = n:=⟨_,rfl⟩
  obtain ⟨g5,cap5,rfl⟩:=own_formI ho n hn (by omega)
  have c5:=i5.cell
  have x0:=bX.cell 0
  have x1:=bX.cell 1
  have x2:=bX.cell 2
  have x3:=bX.cell 3
  have x4:=bX.cell 4
  have hbz:=hB.size
  have HC:=hid (writeEntry_any w.heap.size L (.slice (some ⟨g5,0,none⟩) n cap5) ⟨ct,cs,cn,ca,cb⟩ W (HT.out W hB) ho hbz (by omega) hcs)
  have HN:=hid (fun W1 u1=>PutI.next (l:=l) (W1:=W1) (u1:=u1) (x:=⟨(k,⟨ct,cs,cn,ca,cb⟩),hx⟩) i5 ho hne hB hh (Nat.lt_succ_self _) hz2 hL)
  have hf5:=hne
  have hne5 : g5 ≠ w2.heap.size:=(hne g5 (by simp [Value.ownBlock])).1
  have h5lt:=(Array.getElem?_eq_some_iff.1 i5).1
  have I5:=hid i5
  unfold cC at x0 x1 x2 x3 x4 HC ⊢
  simp at x0 x1 x2 x3 x4
  clear hne hL ho hr hlb hf5 hLl H2 i5 hlt bX
  dsimp only
  gi_wp2
  refine ⟨trivial,?_⟩
  refine (CallsIn.inRound D (callsIn_wide.2 HC.out)).mono ?_
  rintro e W1 ⟨u1,rfl,ho1,G1⟩
  have HE:=hid (HN.out W1 u1 ho1 G1)
  have hz7:=G1.size
  obtain ⟨g6,cap6,rfl⟩:=own_formI ho1 (n + (encE ⟨ct,cs,cn,ca,cb⟩).length) (by rw [List.length_append,hn]) (by unfold encE;rw [List.length_cons];omega)
  have hne6 : some w2.heap.size ≠ (Value.slice (some ⟨g5,0,none⟩) n cap5).ownBlock:=by
   intro e
   have e2 : w2.heap.size = g5:=by simpa [Value.ownBlock] using e
   omega
  have i6 : Boxed W1 w2.heap.size 22 (.slice (some ⟨g5,0,none⟩) n cap5):=(G1.grown.block w2.heap.size h5lt hne6).trans I5.out
  have c6:=i6.cell
  have f6:=i6.frozen
  gi_wp2
  exact ⟨HE.out.1.from _,HE.out.2.1,HE.out.2.2⟩
 case done =>
  rintro D ys W hD rfl ⟨u,i5,ho,hne,hB,hh⟩ hK
  have c5:=i5.cell
  have H2 : (bytesN (l.length : Int) 2).length = 2:=bytesN_len _ _
  obtain ⟨g5,cap5,rfl⟩:=own_formI ho _ rfl (by rw [List.length_append,H2];omega)
  have HO:=hid (fun W' (hg : W.grownBy W' (some D))=>ownI_own w.heap.size (fun _ : Unit=>_) (fun _=>_) () W W' (some D) ho hg (fun r e=>by cases e;exact ⟨_,hK,rfl⟩))
  obtain ⟨n,hn⟩ : ∃ n,(bytesN (l.length : Int) 2 ++ encT (told l l.length)).length = n:=⟨_,rfl⟩
  rw [hn] at c5 HO
  clear hne ho i5
  gi_wp2
  refine ⟨by simp,.inl ⟨_,_,rfl,run_takeDeferred hK,?_⟩⟩
  refine ⟨.tuple #[.slice (some ⟨g5,0,none⟩) n cap5,.int .i64 0],?_,0,H0.out,fun h=>absurd rfl h,fun _=>⟨_,rfl,HO.out _ (grownBy_putObj' _ D (.deferred none))⟩,hB.trans (belowK_b (w:=w) (Nat.le_refl _) _ D _ _ (by omega) hK rfl rfl)⟩
  simp [results,Tryz.f44,go_sem]
 case stop =>
  rintro D c pre W hD _ h
  exact h.elim
 ·have : g2 = k:=by simpa [Value.ownBlock] using e
  have:=hg2 k e
  omega
end Go.Proofs.YtnojgiflgmnjlaaGreatDoor.L3
namespace Go.Proofs.YtnojgiflgmnjlaaGreatDoor.L3
open Go.RowKit
def I6 (z : Int) : Prop:=-9223372036854775808 ≤ z ∧ z ≤ 9223372036854775807
def eOk (t : Int) (s : ByteArray) (n a b : Int) : Prop:=(n = 0 ∨ t = 5 ∨ (t = 3 ∧ n = IntKind.i32.wrap n)) ∧ (a = 0 ∨ (7 ≤ t ∧ 0 < a ∧ a ≤ 65535)) ∧ (b = 0 ∨ (7 < t ∧ 0 < b ∧ b ≤ 65535)) ∧ (t = 1 ∨ s = ⟨#[]⟩)
theorem sgn_0 (z : Int) : sgn z 0 = 0:=rfl
theorem sgn_4 (z : Int) : sgn z 4 = IntKind.i32.wrap z:=rfl
theorem sgn_8 {z : Int} (h : I6 z) : sgn z 8 = z:=by
 unfold I6 at h
 show IntKind.i64.wrap z = z
 exact IntWalk.i64_in _ (by omega)
theorem uns_2 (z : Int) : uns z 2 = z ↔ (z = 0 ∨ (0 < z ∧ z ≤ 65535)):=by
 show z % 65536 = z ↔ _
 omega
theorem cut_ok {t : Int} {s : ByteArray} {n a b : Int} (hk : Cp.knownB t = true) (hn : I6 n) : cutW ⟨t,s,n,a,b⟩ (Cp.wd t) = ⟨t,s,n,a,b⟩ ↔ eOk t s n a b:=by
 unfold Cp.knownB at hk
 have hk2:=of_decide_eq_true hk
 unfold cutW eOk
 simp only [Cp.C.mk.injEq,true_and]
 have e8:=sgn_8 hn
 have e4:=sgn_4 n
 have e0:=sgn_0 n
 have u2:=uns_2 a
 have v2:=uns_2 b
 have u0 : uns a 0 = 0:=rfl
 have v0 : uns b 0 = 0:=rfl
 generalize hs0 : (⟨#[]⟩ : ByteArray) = s0
 have hw : (n = 0 ∨ n = IntKind.i32.wrap n) ↔ n = IntKind.i32.wrap n:=by
  constructor
  ·rintro (rfl|h)
   ·rfl
   ·exact h
  ·exact .inr
 rcases hk2 with rfl|rfl|rfl|rfl|rfl|rfl|rfl
 all_goals simp [Cp.wd,e8,e4,e0,u2,v2,u0,v0,hw,eq_comm]
 all_goals simp only [and_comm,and_left_comm,and_assoc]
theorem ce_no {t : Int} {s : ByteArray} {n a b : Int} (hk : Cp.knownB t = true) (hn : I6 n) (h : ¬ eOk t s n a b) : ceOut ⟨t,s,n,a,b⟩ = 31:=by
 unfold ceOut
 exact if_pos (.inr fun e=>h ((cut_ok hk hn).1 e))
theorem ce_yes {t : Int} {s : ByteArray} {n a b : Int} (hk : Cp.knownB t = true) (hn : I6 n) (h : eOk t s n a b) : ceOut ⟨t,s,n,a,b⟩ = if (Cp.plainB (Cp.bl s) && decide (s.size ≤ 255)) = true then 0 else 32:=by
 unfold ceOut
 rw [if_neg (by rintro (e|e);rw [hk] at e;cases e;exact e ((cut_ok hk hn).2 h))]
 dsimp only
 cases Cp.plainB (Cp.bl s) with
 | false=>simp
 | true =>
  by_cases h1 : s.size ≤ 255
  ·rw [if_neg (by rintro (h|h);omega;cases h)];simp [h1]
  ·rw [if_pos (.inl (by omega))];simp [h1]
set_option maxHeartbeats 4000000 in
theorem rentry_any (c : Cp.C) (w : World) (hs : c.s.size ≤ 140737488355328) (hn : I6 c.n) : Calls Tryz.prog 113 #[.agg (cC c)] w fun e w'=>e = .returned (.int .i64 (ceOut c)) ∧ Below w.heap.size w w':=by
 obtain ⟨t,s,n,a,b⟩:=c
 dsimp only at hs hn
 have HX0:=fun W=>texts_any s W hs
 have HK0:=fun W=>known_any t W
 unfold cC
 dsimp only
 cases hk : Cp.knownB t with
 | false =>
  rw [hk] at HK0
  have HK:=hid HK0
  have HE:=hid (show ceOut ⟨t,s,n,a,b⟩ = 31 from if_pos (.inl hk))
  clear hk HK0 HX0 hs hn
  go_enter Tryz.func113,Tryz.ntmps113
  go_wp2_with (go_at_call 139;refine (HK.out _).mono ?_;rintro e w1 ⟨rfl,rfl⟩)
  go_ret
  exact ⟨by rw [HE.out];rfl,BLw⟩
 | true =>
 rw [hk] at HK0
 have HK:=hid HK0
 have HN0:=(fun h=>ce_no (s:=s) (a:=a) (b:=b) hk hn h)
 have HY0:=(fun h=>ce_yes (s:=s) (a:=a) (b:=b) hk hn h)
 obtain ⟨er,her⟩ : ∃ er,er = ceOut ⟨t,s,n,a,b⟩:=⟨_,rfl⟩
 rw [← her] at HN0 HY0 ⊢
 have HN:=hid HN0
 obtain ⟨r,hr⟩ : ∃ r,r = (Cp.plainB (Cp.bl s) && decide (s.size ≤ 255)):=⟨_,rfl⟩
 rw [← hr] at HX0 HY0
 have HY:=hid HY0
 have HX:=hid HX0
 clear HK0 HX0 HN0 HY0 her hs hn hr
 have hse : s = ⟨#[]⟩ ∨ (¬ s = ⟨#[]⟩ ∧ s.toList.isEmpty = false):=by
  by_cases e2 : s = ⟨#[]⟩
  ·exact .inl e2
  ·refine .inr ⟨e2,?_⟩
   rw [ByteArray.toList_eq]
   cases hb : s.data.toList with
   | nil=>exact absurd (ba_ext hb) e2
   | cons=>rfl
 rcases of_decide_eq_true hk with rfl|rfl|rfl|rfl|ht
 case inr.inr.inr.inr =>
  have h1 : (t == 1) = false:=by rw [beq_eq_false_iff_ne];omega
  have h3 : (t == 3) = false:=by rw [beq_eq_false_iff_ne];omega
  have h5 : (t == 5) = false:=by rw [beq_eq_false_iff_ne];omega
  have h7 : decide (7 ≤ t) = true:=by simp;omega
  have h8 : decide (7 < t) = true:=by simp;omega
  have g1 : (t != 1) = true:=by rw [bne_iff_ne];omega
  have HT:=hid ht
  clear hk ht
  rcases hse with rfl|⟨q1,q2⟩
  all_goals (go_enter Tryz.func113,Tryz.ntmps113;go_wp2_with (first|(go_at_call 139;refine (HK.out _).mono ?_;rintro e w1 ⟨rfl,rfl⟩)|(go_at_call 141;refine (HX.out _).mono ?_;rintro e w1 ⟨rfl,rfl⟩;cases r));all_goals go_ret;all_goals refine ⟨?_,BLw⟩)
  all_goals have ht:=HT.out
  all_goals have k1 : ¬ t = 1:=by omega
  all_goals have k3 : ¬ t = 3:=by omega
  all_goals have k5 : ¬ t = 5:=by omega
  all_goals have k7 : 7 ≤ t:=by omega
  all_goals have k8 : 7 < t:=by omega
  all_goals clear ht h1 h3 h5 h7 h8 g1
  all_goals (first|exact (congrArg (fun z=>Ending.returned (.int .i64 z)) (HN.out (by unfold eOk;simp [*] <;> omega))).symm|exact (congrArg (fun z=>Ending.returned (.int .i64 z)) (HY.out (by unfold eOk;simp [*]))).symm|(have hh:=HY.out (by unfold eOk;simp [*]);rw [hh];rfl))
 case inl =>
  clear hk
  (go_enter Tryz.func113,Tryz.ntmps113;go_wp2_with (first|(go_at_call 139;refine (HK.out _).mono ?_;rintro e w1 ⟨rfl,rfl⟩)|(go_at_call 141;refine (HX.out _).mono ?_;rintro e w1 ⟨rfl,rfl⟩;cases r));all_goals go_ret;all_goals refine ⟨?_,BLw⟩)
  all_goals (first|exact (congrArg (fun z=>Ending.returned (.int .i64 z)) (HN.out (by unfold eOk;simp [*] <;> omega))).symm|exact (congrArg (fun z=>Ending.returned (.int .i64 z)) (HY.out (by unfold eOk;simp [*]))).symm|(have hh:=HY.out (by unfold eOk;simp [*]);rw [hh];rfl))
 case inr.inl =>
  clear hk
  obtain ⟨m,hm⟩ : ∃ m,m = IntKind.i32.wrap n:=⟨_,rfl⟩
  have h32 : wrap64 (wrap32 n) = m:=by rw [hm,IntKind.wrap_i32];unfold wrap64 wrap32;omega
  have HW:=hid (show (n = IntKind.i32.wrap n) ↔ (n == m) = true by rw [← hm];simp)
  clear hm
  cases q3 : (n == m)
  all_goals rcases hse with rfl|⟨q1,q2⟩
  all_goals (go_enter Tryz.func113,Tryz.ntmps113;go_wp2_with (first|(go_at_call 139;refine (HK.out _).mono ?_;rintro e w1 ⟨rfl,rfl⟩)|(go_at_call 141;refine (HX.out _).mono ?_;rintro e w1 ⟨rfl,rfl⟩;cases r));all_goals go_ret;all_goals refine ⟨?_,BLw⟩)
  all_goals have hww:=HW.out
  all_goals rw [q3] at hww
  all_goals clear q3 h32
  all_goals (first|exact (congrArg (fun z=>Ending.returned (.int .i64 z)) (HN.out (by unfold eOk;simp [*] <;> omega))).symm|exact (congrArg (fun z=>Ending.returned (.int .i64 z)) (HY.out (by unfold eOk;simp [*]))).symm|(have hh:=HY.out (by unfold eOk;simp [*]);rw [hh];rfl))
 all_goals clear hk
 all_goals rcases hse with rfl|⟨q1,q2⟩
 all_goals (go_enter Tryz.func113,Tryz.ntmps113;go_wp2_with (first|(go_at_call 139;refine (HK.out _).mono ?_;rintro e w1 ⟨rfl,rfl⟩)|(go_at_call 141;refine (HX.out _).mono ?_;rintro e w1 ⟨rfl,rfl⟩;cases r));all_goals go_ret;all_goals refine ⟨?_,BLw⟩)
 all_goals (first|exact (congrArg (fun z=>Ending.returned (.int .i64 z)) (HN.out (by unfold eOk;simp [*] <;> omega))).symm|exact (congrArg (fun z=>Ending.returned (.int .i64 z)) (HY.out (by unfold eOk;simp [*]))).symm|(have hh:=HY.out (by unfold eOk;simp [*]);rw [hh];rfl))
end Go.Proofs.YtnojgiflgmnjlaaGreatDoor.L3
namespace Go.Proofs.YtnojgiflgmnjlaaGreatDoor.L3
open Go.RowKit
theorem prev_next {l : List Cp.C} {k : Nat} {c : Cp.C} (h : l[k]? = some c) : prevB l (k + 1) = (c.t == 5):=by
 unfold prevB
 dsimp only
 rw [h]
set_option maxHeartbeats 4000000 in
theorem rcheck_any (l : List Cp.C) (v : Value) (w : World) (hv : Kit.IsS 5 w v l.length (l.flatMap cL)) (hs : ∀ c ∈ l,c.s.size ≤ 140737488355328 ∧ I6 c.n) :
  Calls Tryz.prog 57 #[v] w fun e w'=>∃ er,CkIs l er ∧ e = .returned (.int .i64 er) ∧ Below w.heap.size w w':=by
 have HV:=hid (fun W (h : Below w.heap.size w W)=>hv.below h (Nat.le_refl _))
 have HS:=hid hs
 have hlen:=hv.2.1
 obtain ⟨a,cap,rfl⟩:=hv.len
 clear hv hs
 by_cases hbig : 4096 < l.length
 ·have hd : decide (4096 < (l.length : Int)) = true:=by simp;omega
  have HC:=hid (show CkIs l 3 from .inl ⟨hbig,rfl⟩)
  clear hbig
  go_enter Tryz.func57,Tryz.ntmps57
  go_wp2
  go_ret
  exact ⟨3,HC.out,rfl,BLw⟩
 ·have hd : decide (4096 < (l.length : Int)) = false:=by simp;omega
  have hsm : l.length ≤ 4096:=by omega
  clear hbig
  have hw1 : IntKind.i64.wrap ((l.length : Int) - 1) = (l.length : Int) - 1:=IntWalk.i64_in _ (by omega)
  go_enter Tryz.func57,Tryz.ntmps57
  go_wp2
  go_loopw [3,4] (fun p i wr=>∃ k : Nat,k ≤ l.length ∧ i = .int .i64 k ∧ p = .bool (prevB l k) ∧ Hid (∀ j,j < k → errAt l j = 0) ∧ Below w.heap.size w wr) (fun _ i _=>l.length - (intOf i).toNat)
  case atStart=>exact ⟨0,by omega,rfl,rfl,fun j hj=>absurd hj (by omega),BLw⟩
  case round =>
   obtain ⟨k,hk,rfl,rfl,hz,hbl⟩:=hrel
   have hbz:=hbl.size
   by_cases hlt : k < l.length
   ·obtain ⟨c,hc⟩ : ∃ c,l[k]? = some c:=⟨l[k],List.getElem?_eq_getElem hlt⟩
    obtain ⟨b,o,cap',hv',hb,c0,c1,c2,c3,c4⟩:=c_at (HV.out wr hbl) hc
    obtain ⟨rfl,-,rfl⟩:=Value.slice.inj hv'
    have hki : (k : Int) < l.length:=by omega
    have hnx:=prev_next hc
    have hE : errAt l k = if prevB l k = true then (if c = Cp.C0 then 0 else 31) else (if c.t = 5 ∧ k = l.length - 1 then 31 else ceOut c):=by unfold errAt;rw [hc]
    have HCe:=hid (fun (er : Int) (h : errAt l k = er) (h0 : er ≠ 0)=>show CkIs l er from .inr ⟨hsm,.inr ⟨k,hlt,h,h0,hz.out⟩⟩)
    have HNx:=hid (fun (h : errAt l k = 0) j (hj : j < k + 1)=>show errAt l j = 0 by
      rcases Nat.lt_or_ge j k with h1|h1
      ·exact hz.out j h1
      ·rw [show j = k by omega,h])
    cases hp : prevB l k with
    | true =>
     rw [hp,if_pos rfl] at hE
     by_cases he : c = Cp.C0
     ·rw [if_pos he] at hE
      subst he
      have HN:=hid (HNx.out hE)
      have HP:=hid hnx
      unfold Cp.C0 at c0 c1 c2 c3 c4
      dsimp only at c0 c1 c2 c3 c4
      clear hc hE hnx hp hv'
      go_wp2
      go_roundw
      case rel=>exact ⟨k + 1,by omega,by go_num,by rw [HP.out];rfl,HN,BLw⟩
      case measure=>simp [intOf];omega
     ·rw [if_neg he] at hE
      have HC:=hid (HCe.out 31 hE (by decide))
      have hne:=c0_ne he
      obtain ⟨t,s,n,a,bb⟩:=c
      dsimp only at c0 c1 c2 c3 c4 hne
      clear hc he hE hnx hp hv'
      rcases hne with h|⟨rfl,h⟩|⟨rfl,rfl,h⟩|⟨rfl,rfl,rfl,h⟩|⟨rfl,rfl,rfl,rfl,h⟩
      all_goals go_wp2
      all_goals go_ret
      all_goals exact ⟨31,HC.out,rfl,BLw⟩
    | false =>
     rw [hp,if_neg (by simp)] at hE
     have HR:=hid (fun W=>rentry_any c W (HS.out c (List.mem_of_getElem? hc)).1 (HS.out c (List.mem_of_getElem? hc)).2)
     by_cases hlast : c.t = 5 ∧ k = l.length - 1
     ·rw [if_pos hlast] at hE
      have HC:=hid (HCe.out 31 hE (by decide))
      have hd5 : (c.t == 5) = true:=by simpa using hlast.1
      have hd6 : ((k : Int) == (l.length : Int) - 1) = true:=by rw [beq_iff_eq];omega
      clear hc hE hnx hp hv' hlast
      go_wp2
      go_ret
      exact ⟨31,HC.out,rfl,BLw⟩
     ·rw [if_neg hlast] at hE
      obtain ⟨er,her⟩ : ∃ er,er = ceOut c:=⟨_,rfl⟩
      rw [← her] at hE HR
      have hd6 : c.t = 5 → ((k : Int) == (l.length : Int) - 1) = false:=by intro h;rw [beq_eq_false_iff_ne];intro h2;exact hlast ⟨h,by omega⟩
      have HP:=hid hnx
      have hsp : (c.t == 5) = false ∨ ((c.t == 5) = true ∧ ((k : Int) == (l.length : Int) - 1) = false):=by
       by_cases h : c.t = 5
       ·exact .inr ⟨by simpa using h,hd6 h⟩
       ·exact .inl (by simpa using h)
      by_cases h0 : er = 0
      ·have HN:=hid (HNx.out (hE.trans h0))
       have hd7 : (er != 0) = false:=by simpa using h0
       unfold cC at HR
       clear hc hE hnx hp hv' hlast h0 her hd6
       rcases hsp with hd5|⟨hd5,hd6⟩
       all_goals go_wp2_with (go_at_call 113;refine (HR.out _).mono ?_;rintro e w1 ⟨rfl,hb1⟩;have k0:=hb1.cell (p:=⟨b,o + k * 5,none⟩) hb;rw [c0] at k0)
       all_goals go_roundw
       all_goals first
        | (case rel=>exact ⟨k + 1,by omega,by go_num,by rw [HP.out,hd5],HN,belows hbl hb1 hbz⟩)
        | (case measure=>simp [intOf];omega)
      ·have HC:=hid (HCe.out er hE h0)
       have hd7 : (er != 0) = true:=by simpa using h0
       unfold cC at HR
       clear hc hE hnx hp hv' hlast h0 her hd6
       rcases hsp with hd5|⟨hd5,hd6⟩
       all_goals go_wp2_with (go_at_call 113;refine (HR.out _).mono ?_;rintro e w1 ⟨rfl,hb1⟩)
       all_goals go_ret
       all_goals exact ⟨er,HC.out,rfl,belows hbl hb1 hbz⟩
   ·obtain rfl : k = l.length:=by omega
    have HC:=hid (show CkIs l 0 from .inr ⟨hsm,.inl ⟨rfl,hz.out⟩⟩)
    go_wp2
    go_ret
    exact ⟨0,HC.out,rfl,hbl⟩
end Go.Proofs.YtnojgiflgmnjlaaGreatDoor.L3
namespace Go.Proofs.YtnojgiflgmnjlaaGreatDoor.L3
open Go.RowKit
theorem bytesN_0 (z : Int) : bytesN z 0 = []:=rfl
theorem enc_text {t : Int} (s : ByteArray) (n a b : Int) (h : t = 1) : encE ⟨t,s,n,a,b⟩ = [t % 256] ++ bytesN s.size 2 ++ ((Cp.bl s).map fun b=>(b.toNat : Int)):=by
 subst h
 unfold encE
 simp [Cp.wd,bytesN_0]
theorem enc_num {t : Int} (n a b : Int) (k : Nat) (h : Cp.wd t = (0,k,0,0)) : encE ⟨t,⟨#[]⟩,n,a,b⟩ = [t % 256] ++ bytesN n k:=by
 unfold encE
 simp [h,bytesN_0,Cp.bl]
theorem enc_one {t : Int} (n a b : Int) (h : t = 7) : encE ⟨t,⟨#[]⟩,n,a,b⟩ = [t % 256] ++ bytesN a 2:=by
 subst h
 unfold encE
 simp [Cp.wd,bytesN_0,Cp.bl]
theorem enc_two {t : Int} (n a b : Int) (h : t = 9 ∨ t = 10 ∨ t = 12) : encE ⟨t,⟨#[]⟩,n,a,b⟩ = [t % 256] ++ bytesN a 2 ++ bytesN b 2:=by
 unfold encE
 rcases h with rfl|rfl|rfl <;> simp [Cp.wd,bytesN_0,Cp.bl]
structure PSt (w : World) (base : Nat) (v0 : Value) (C : Array Value) (W : World) (v : Value) (l : List Int) : Prop where
 own : OwnI W base v l
 gr : Kit.Grows w W v0 v
 bc : BX W w.heap.size C 56
 ne : ∀ k,v.ownBlock = some k → k ≠ w.heap.size
 le : base ≤ W.heap.size
theorem PSt.step {w : World} {base : Nat} {v0 : Value} {C : Array Value} {W W' : World} {v v' : Value} {l l' : List Int} (h : PSt w base v0 C W v l) (ho : OwnI W' base v' l') (g : Kit.Grows W W' v v') : PSt w base v0 C W' v' l':=by
 refine ⟨ho,h.gr.trans g,h.bc.grown g.grown ?_,?_,Nat.le_trans h.le g.size⟩
 ·intro e
  exact h.ne _ e rfl
 ·intro k e
  have h1:=h.bc.sz
  rcases g.blk with e2|⟨j,hj,e2⟩
  ·rw [e2] at e
   exact h.ne k e
  ·rw [e2] at e
   have:=Option.some.inj e
   omega
theorem PSt.drew {w : World} {base : Nat} {v0 : Value} {C : Array Value} {W : World} {v : Value} {l : List Int} (h : PSt w base v0 C W v l) : PSt w base v0 C W.drew v l :=
 ⟨World.ownsRow.drew h.own,⟨⟨h.gr.grown.os,h.gr.grown.tape,h.gr.grown.output,h.gr.grown.size,h.gr.grown.block⟩,h.gr.blk⟩,h.bc,h.ne,h.le⟩
theorem PSt.cells {w : World} {base : Nat} {v0 : Value} {c0 c1 c2 c3 c4 : Value} {W : World} {v : Value} {l : List Int} (h : PSt w base v0 #[c0,c1,c2,c3,c4] W v l) :
  W.cell? ⟨w.heap.size,0,none⟩ = some c0 ∧ W.cell? ⟨w.heap.size,1,none⟩ = some c1 ∧ W.cell? ⟨w.heap.size,2,none⟩ = some c2 ∧ W.cell? ⟨w.heap.size,3,none⟩ = some c3 ∧ W.cell? ⟨w.heap.size,4,none⟩ = some c4 :=
 ⟨h.bc.cell 0,h.bc.cell 1,h.bc.cell 2,h.bc.cell 3,h.bc.cell 4⟩
theorem PSt.first {w w2 : World} {base : Nat} {v v1 : Value} {l : List Int} {z : Int} {C : Array Value} (hb : base ≤ w.heap.size) (hlt : ∀ k,v.ownBlock = some k → k < w.heap.size) (ho : w2.ownsRow base 5 1 v1 (l.length + 1) (l.map (Value.int .u8) ++ [.int .u8 z])) (hg : ((w.alloc (.cells C 56)).alloc (.cells #[.int .u8 z] 5)).grownBy w2 v.ownBlock) (hk : v1.ownBlock = v.ownBlock ∨ v1.ownBlock = some (w.heap.size + 1 + 1)) : PSt w base v C w2 v1 (l ++ [z]):=by
 have B1 : Below w.heap.size w ((w.alloc (.cells C 56)).alloc (.cells #[.int .u8 z] 5)):=((Below.refl _ w).alloc (Nat.le_refl _) _).alloc (by simp) _
 have hzg:=hg.size
 simp only [World.size_alloc] at hzg
 have bc1 : BX ((w.alloc (.cells C 56)).alloc (.cells #[.int .u8 z] 5)) w.heap.size C 56:=(BX.new w C 56).below ((Below.refl (w.heap.size + 1) _).alloc (by simp) _) (by omega)
 refine ⟨OwnI.snoc ho,Kit.grows_append B1 hg (by simpa using hk),bc1.grown hg ?_,?_,by omega⟩
 ·intro e
  have:=hlt _ e
  omega
 ·intro k e
  rcases hk with h|h
  ·rw [h] at e
   have:=hlt _ e
   omega
  ·rw [h] at e
   have:=Option.some.inj e
   omega
theorem news_two (w : World) (o : Obj) (v : Value) (t : TypeId) : ∀ j u,[v][j]? = some u → ((w.alloc o).alloc (.cells #[v] t)).cell? ((⟨w.heap.size + 1,0,none⟩ : Addr).add j) = some u:=by
 have hn:=Kit.news_one (w.alloc o) v t
 rw [World.size_alloc] at hn
 exact hn
end Go.Proofs.YtnojgiflgmnjlaaGreatDoor.L3
namespace Go.Proofs.YtnojgiflgmnjlaaGreatDoor.L3
open Go.RowKit
attribute [local go_sem] Oper.semAt_some
def FiIs (l : List Cp.C) (c : Cp.C) (r : Nat) (b : Bool) : Prop:=(b = false ∧ r = 0 ∧ ∀ j,1 ≤ j → c.t ≠ 0 → l[j]? ≠ some c) ∨ (b = true ∧ 1 ≤ r ∧ c.t ≠ 0 ∧ l[r]? = some c ∧ ∀ j,1 ≤ j → j < r → l[j]? ≠ some c)
theorem FiIs.det {l : List Cp.C} {c : Cp.C} {r r' : Nat} {b b' : Bool} (h : FiIs l c r b) (k : FiIs l c r' b') : r = r' ∧ b = b':=by
 rcases h with ⟨rfl,rfl,h⟩|⟨rfl,h1,h2,h3,h⟩
 ·rcases k with ⟨rfl,rfl,k⟩|⟨rfl,k1,k2,k3,k⟩
  ·exact ⟨rfl,rfl⟩
  ·exact absurd k3 (h _ k1 k2)
 ·rcases k with ⟨rfl,rfl,k⟩|⟨rfl,k1,k2,k3,k⟩
  ·exact absurd h3 (k _ h1 h2)
  ·refine ⟨?_,rfl⟩
   rcases Nat.lt_trichotomy r r' with hlt|e|hlt
   ·exact absurd h3 (k r h1 hlt)
   ·exact e
   ·exact absurd k3 (h r' k1 hlt)
theorem told_cases (l : List Cp.C) (k : Nat) : told l (k + 1) = told l k ∨ ∃ x : Tx l,x.1.1 = k ∧ told l (k + 1) = told l k ++ [x]:=by
 cases h : l[k]? with
 | none =>
  refine .inl ?_
  show told l k ++ _ = _
  split
  ·rename_i d hd
   rw [h] at hd
   cases hd
  ·rw [List.append_nil]
 | some c =>
  by_cases hc : c.t = 0
  ·exact .inl (told_no h hc)
  ·exact .inr ⟨⟨(k,c),h,hc⟩,rfl,told_yes h hc⟩
theorem told_last {l : List Cp.C} : ∀ {k : Nat} {pre : List (Tx l)} {x : Tx l},told l k = pre ++ [x] → pre = told l x.1.1 ∧ x.1.1 < k
 | 0,pre,x,h=>by
  have:=congrArg List.length h
  simp [told] at this
 | k + 1,pre,x,h=>by
  rcases told_cases l k with e|⟨y,hy,e⟩
  ·rw [e] at h
   have:=told_last h
   exact ⟨this.1,by omega⟩
  ·rw [e] at h
   obtain ⟨h1,h2⟩:=List.append_inj' h rfl
   obtain rfl : y = x:=by simpa using h2
   rw [hy]
   exact ⟨h1.symm,by omega⟩
theorem told_mem {l : List Cp.C} {j : Nat} {c : Cp.C} (h : l[j]? = some c) (hc : c.t ≠ 0) : ∀ {k : Nat},j < k → (⟨(j,c),h,hc⟩ : Tx l) ∈ told l k
 | 0,hk=>absurd hk (by omega)
 | k + 1,hk=>by
  by_cases hj : j = k
  ·subst hj
   rw [told_yes h hc]
   simp
  ·rcases told_cases l k with e|⟨y,hy,e⟩
   ·rw [e];exact told_mem h hc (by omega)
   ·rw [e];exact List.mem_append_left _ (told_mem h hc (by omega))
theorem c_ne {x c : Cp.C} (h : x ≠ c) : (¬ x.t = c.t) ∨ (x.t = c.t ∧ (x.s.toList == c.s.toList) = false) ∨ (x.t = c.t ∧ x.s = c.s ∧ ¬ x.n = c.n) ∨ (x.t = c.t ∧ x.s = c.s ∧ x.n = c.n ∧ ¬ x.a = c.a) ∨ (x.t = c.t ∧ x.s = c.s ∧ x.n = c.n ∧ x.a = c.a ∧ ¬ x.b = c.b):=by
 obtain ⟨t,s,n,a,b⟩:=x
 obtain ⟨t',s',n',a',b'⟩:=c
 dsimp only
 by_cases e1 : t = t'
 ·by_cases e2 : s = s'
  ·by_cases e3 : n = n'
   ·by_cases e4 : a = a'
    ·by_cases e5 : b = b'
     ·exact absurd (by rw [e1,e2,e3,e4,e5]) h
     ·exact .inr (.inr (.inr (.inr ⟨e1,e2,e3,e4,e5⟩)))
    ·exact .inr (.inr (.inr (.inl ⟨e1,e2,e3,e4⟩)))
   ·exact .inr (.inr (.inl ⟨e1,e2,e3⟩))
  ·refine .inr (.inl ⟨e1,?_⟩)
   rw [beq_eq_false_iff_ne,ne_eq,ByteArray.toList_eq,ByteArray.toList_eq]
   intro e
   exact e2 (ba_ext e)
 ·exact .inl e1
def FiPost (l : List Cp.C) (c : Cp.C) (w : World) (e : Ending) (w' : World) : Prop:=∃ (r : Nat) (b : Bool),FiIs l c r b ∧ e = .returned (.tuple #[.int .i64 (r : Nat),.bool b]) ∧ Below w.heap.size w w'
set_option maxHeartbeats 4000000 in
theorem rfind_any (l : List Cp.C) (c : Cp.C) (v : Value) (w : World) (hv : Kit.IsS 5 w v l.length (l.flatMap cL)) :
  Calls Tryz.prog 98 #[v,.agg (cC c)] w (FiPost l c w):=by
 have HV:=hid (fun W (h : Below w.heap.size w W)=>hv.below h (Nat.le_refl _))
 obtain ⟨a,cap,hv2⟩:=hv.len
 subst hv2
 have hlen:=hv.2.1
 clear hv
 by_cases hct : c.t = 0
 ·have HF:=hid (show FiIs l c 0 false from .inl ⟨rfl,rfl,fun _ _ h=>absurd hct h⟩)
  obtain ⟨t,s,n,ca,cb⟩:=c
  dsimp only at hct
  subst hct
  unfold cC
  dsimp only
  go_enter Tryz.func98,Tryz.ntmps98
  go_wp2
  go_loopw [6] (fun i wr=>i = .int .i64 1 ∧ wr = w.alloc (.cells #[.int .i64 0,.string s,.int .i64 n,.int .i64 ca,.int .i64 cb] 56)) (fun i _=>0)
  case atStart=>exact ⟨rfl,rfl⟩
  case round =>
   obtain ⟨rfl,rfl⟩:=hrel
   by_cases h1 : (1 : Int) < l.length
   all_goals go_wp2
   all_goals go_ret2
   all_goals exact ⟨0,false,HF.out,rfl,BLw⟩
 ·have hzd : (c.t == 0) = false:=by simpa using hct
  have hzd2 : (c.t != 0) = true:=by simpa using hct
  have HC:=hid hct
  have HY:=hid (fun (k : Nat) (h1 : 1 ≤ k) (hk : l[k]? = some c) (hn : ∀ j,1 ≤ j → j < k → l[j]? ≠ some c)=>show FiIs l c k true from .inr ⟨rfl,h1,hct,hk,hn⟩)
  have HN:=hid (fun (hn : ∀ j,1 ≤ j → j < l.length → l[j]? ≠ some c)=>show FiIs l c 0 false from .inl ⟨rfl,rfl,fun j h1 _ h=>by
   rcases Nat.lt_or_ge j l.length with h2|h2
   ·exact hn j h1 h2 h
   ·rw [List.getElem?_eq_none h2] at h;cases h⟩)
  obtain ⟨cx,hcx⟩ : ∃ x,x = c:=⟨_,rfl⟩
  obtain ⟨t,s,n,ca,cb⟩:=c
  dsimp only at hzd hzd2
  unfold cC
  dsimp only
  clear hct
  go_enter Tryz.func98,Tryz.ntmps98
  go_wp2
  go_loopw [6] (fun i wr=>∃ k : Nat,1 ≤ k ∧ i = .int .i64 k ∧ Hid (∀ j,1 ≤ j → j < k → l[j]? ≠ some ⟨t,s,n,ca,cb⟩) ∧ BX wr w.heap.size #[.int .i64 t,.string s,.int .i64 n,.int .i64 ca,.int .i64 cb] 56 ∧ Below w.heap.size w wr) (fun i _=>l.length - (intOf i).toNat)
  case atStart=>exact ⟨1,by omega,rfl,fun j h1 h2=>by omega,BX.new w _ _,BLw⟩
  case round =>
   obtain ⟨k,hk,rfl,hn,hbx,hbl⟩:=hrel
   have hbz:=hbl.size
   have x0:=hbx.cell 0
   have x1:=hbx.cell 1
   have x2:=hbx.cell 2
   have x3:=hbx.cell 3
   have x4:=hbx.cell 4
   simp at x0 x1 x2 x3 x4
   by_cases hlt : k < l.length
   ·obtain ⟨y,hy⟩ : ∃ y,l[k]? = some y:=⟨l[k],List.getElem?_eq_getElem hlt⟩
    obtain ⟨b,o,cap',hv',hb,c0,c1,c2,c3,c4⟩:=c_at (HV.out wr hbl) hy
    obtain ⟨rfl,-,rfl⟩:=Value.slice.inj hv'
    have hki : (k : Int) < l.length:=by omega
    by_cases he : y = ⟨t,s,n,ca,cb⟩
    ·have HF:=hid (HY.out k hk (by rw [← he];exact hy) hn.out)
     subst he
     dsimp only at c0 c1 c2 c3 c4
     clear hy hv'
     go_wp2
     go_quiet (fail)
     go_wp2
     go_ret2
     exact ⟨k,true,HF.out,rfl,BLw⟩
    ·have HNx:=hid (fun j (h1 : 1 ≤ j) (hj : j < k + 1)=>show l[j]? ≠ some (⟨t,s,n,ca,cb⟩ : Cp.C) by
      rcases Nat.lt_or_ge j k with h2|h2
      ·exact hn.out j h1 h2
      ·rw [show j = k by omega,hy];intro e;exact he (Option.some.inj e))
     have hne:=c_ne he
     obtain ⟨t',s',n',a',b'⟩:=y
     dsimp only at c0 c1 c2 c3 c4 hne
     clear hy he hv' hcx
     rcases hne with h|⟨rfl,h⟩|⟨rfl,rfl,h⟩|⟨rfl,rfl,rfl,h⟩|⟨rfl,rfl,rfl,rfl,h⟩
     all_goals go_wp2
     all_goals go_quiet (fail)
     all_goals go_wp2
     all_goals go_roundw
     all_goals first
      | (case rel=>exact ⟨k + 1,by omega,by go_num,HNx,hbx,BLw⟩)
      | (case measure=>simp [intOf] <;> omega)
   ·have HF:=hid (HN.out fun j h1 h2=>hn.out j h1 (by omega))
    have hki : decide ((k : Int) < l.length) = false:=by simp;omega
    go_wp2
    go_ret2
    exact ⟨0,false,HF.out,rfl,BLw⟩
end Go.Proofs.YtnojgiflgmnjlaaGreatDoor.L3
