/- Own texts for the claim, part 2. -/
import Derived.Test.YtnojgiflgmnjlaaGreatDoorZD1
set_option maxRecDepth 100000
namespace Go.Proofs.YtnojgiflgmnjlaaGreatDoor.L3
open Go.RowKit
theorem Tabs.grown {w w' : World} {row : Option Nat} (h : Tabs w) (hg : w.grownBy w' row) (hne : ∀ k,row = some k → 1 ≤ k) : Tabs w':=by
 have hs:=h.size
 refine ⟨Nat.le_trans h.size hg.size,fun k hk=>?_⟩
 obtain ⟨a,b,c,d⟩:=h.cells k hk
 have hc:=fun j=>World.cell?_of_block (a:=⟨0,j,none⟩) (hg.block 0 (by omega) (fun e=>by have:=hne 0 e.symm;omega))
 exact ⟨(hc _).trans a,(hc _).trans b,(hc _).trans c,(hc _).trans d⟩
theorem EnSt.new {pb : Nat} {w w1 w2 : World} {r : List UInt8} {c : Int} {x : Array Value} (hp : pb < w.heap.size) (h1 : Stp pb r (w.alloc (.cells #[.int .i64 0,.string ⟨#[]⟩,.int .i64 0,.int .i64 0,.int .i64 0] 56)) w1)
  (h2 : Below (w1.alloc (.cells #[.int .i64 c,.string ⟨#[]⟩,.int .i64 0,.int .i64 0,.int .i64 0] 56)).heap.size (w1.alloc (.cells #[.int .i64 c,.string ⟨#[]⟩,.int .i64 0,.int .i64 0,.int .i64 0] 56)) w2) :
  EnSt pb w.heap.size w1.heap.size w2.heap.size w (w2.alloc (.cells x 169)) r ⟨c,⟨#[]⟩,0,0,0⟩ x:=by
 have z1:=h1.1.size
 have z2:=h2.size
 simp only [World.size_alloc] at z1 z2
 have hb : Below w1.heap.size w1 (w2.alloc (.cells x 169)):=by
  have ha : Below w1.heap.size w1 w2:=((Below.refl _ _).alloc (Nat.le_refl _) _).trans (h2.mono (by rw [World.size_alloc];omega))
  exact ha.alloc (by omega) _
 have hb2 : Below (w1.heap.size + 1) (w1.alloc (.cells #[.int .i64 c,.string ⟨#[]⟩,.int .i64 0,.int .i64 0,.int .i64 0] 56)) (w2.alloc (.cells x 169)):=(h2.mono (by rw [World.size_alloc];omega)).alloc (by omega) _
 have hg1 : w.grownBy w1 (some pb):=by
  have:=h1.1
  exact ⟨this.os,this.tape,this.output,by omega,fun i hi hne=>(this.block i (by rw [World.size_alloc];omega) hne).trans (((Below.refl w.heap.size w).alloc (Nat.le_refl _) _).block i hi)⟩
 refine ⟨h1.2.below hb (by omega),?_,?_,BX.new _ _ _,?_,hp,Nat.le_refl _,by omega,by omega⟩
 ·exact ((BX.new w _ _).grown h1.1 (by simp;omega)).below hb (by omega)
 ·exact (BX.new w1 _ _).below hb2 (by omega)
 ·exact grown_trans hg1 (grown_of_below hb _)
def EnPost (pb : Nat) (x : Except Int (Cp.C × List UInt8)) (w : World) (e : Ending) (w' : World) : Prop:=match x with
 | .error er=>Bad pb er w e w'
 | .ok (c,r)=>e = .returned (.agg (cC c)) ∧ Stp pb r w w'
theorem Stp.set {pb : Nat} {bs : List UInt8} {w wr : World} (h : Stp pb bs w wr) {B : Nat} (hB : w.heap.size ≤ B) (hp : pb < w.heap.size) (j : Nat) (u : Value) : Stp pb bs w (wr.setCell ⟨B,j,none⟩ u):=by
 have hg:=set_grown wr B j u
 refine ⟨⟨h.1.os,h.1.tape,h.1.output,by rw [World.size_setCell];exact h.1.size,fun i hi hne=>(hg.block i (Nat.lt_of_lt_of_le hi h.1.size) (fun e=>by have:=Option.some.inj e;omega)).trans (h.1.block i hi hne)⟩,h.2.grown hg (fun k e=>by have:=Option.some.inj e;omega)⟩
theorem cf_number (u v : Value) (w : World) : (callFunc 213 #[u,v]).run Tryz.prog w = .ok (.enter 213 #[u,v]) w:=by kernel_rfl
theorem cf_signed (u v : Value) (w : World) : (callFunc 202 #[u,v]).run Tryz.prog w = .ok (.enter 202 #[u,v]) w:=by kernel_rfl
set_option maxHeartbeats 400000 in
theorem entry_ok (pb : Nat) (room : Int) (c : UInt8) (r r1 s : List UInt8) (x0 x1 x2 x3 : Nat) (w : World) (hp : 1 ≤ pb) (ht : Tabs w) (hr : Rdr w pb (c :: r))
  (hw : Cp.wd (c.toNat : Nat) = (x0,x1,x2,x3)) (hk : Cp.knownB (c.toNat : Nat) = true) (hlast : ¬ ((c.toNat : Int) = 5 ∧ room < 2)) (hx : txP x0 r = .ok (s,r1)) (h1 : x1 ≤ r1.length) (h2 : x2 ≤ (r1.drop x1).length) (h3 : x3 ≤ ((r1.drop x1).drop x2).length) :
  Calls Tryz.prog 214 #[.pointer (some ⟨pb,0,none⟩),.int .i64 room] w (EnPost pb (.ok (⟨(c.toNat : Int),⟨s.toArray⟩,sgn (Cp.numI (r1.take x1)) x1,Cp.numI ((r1.drop x1).take x2),Cp.numI (((r1.drop x1).drop x2).take x3)⟩,((r1.drop x1).drop x2).drop x3)) w):=by
 unfold EnPost
 have hps:=hr.sz
 have hwn:=wd_n (c.toNat : Nat)
 have hwl:=wd_le (c.toNat : Nat)
 have HW0:=fun W (h : Tabs W)=>widthsOf_any c.toNat W h
 rw [hw] at HW0 hwn hwl
 rw [hk] at HW0
 dsimp only at HW0 hwn hwl
 have HW:=hid HW0
 have HN0:=hid (fun W (h : Below w.heap.size w W)=>number_ok pb 1 (c :: r) W (hr.below h hps) (by simp))
 rw [show (c :: r).take 1 = [c] from rfl,numI_one,show (c :: r).drop 1 = r from rfl] at HN0
 have HTx0:=fun W (h : Rdr W pb r)=>text_any pb x0 r W h hwl.1
 rw [hx] at HTx0
 unfold TxPost at HTx0
 dsimp only at HTx0 ⊢
 have HTx:=hid HTx0
 have HN1:=hid (fun W (h : Rdr W pb r1)=>number_ok pb x1 r1 W h h1)
 have HN2:=hid (fun W (h : Rdr W pb (r1.drop x1))=>number_ok pb x2 _ W h h2)
 have HN3:=hid (fun W (h : Rdr W pb ((r1.drop x1).drop x2))=>number_ok pb x3 _ W h h3)
 obtain ⟨st,hst⟩ : ∃ st : ByteArray,st = ⟨s.toArray⟩:=⟨_,rfl⟩
 obtain ⟨n1,hn1⟩ : ∃ z,z = Cp.numI (r1.take x1):=⟨_,rfl⟩
 obtain ⟨r2,hr2⟩ : ∃ l,l = r1.drop x1:=⟨_,rfl⟩
 rw [← hst] at HTx ⊢
 rw [← hn1] at HN1 ⊢
 rw [← hr2] at HN1 HN2 HN3 ⊢
 obtain ⟨n2,hn2⟩ : ∃ z,z = Cp.numI (r2.take x2):=⟨_,rfl⟩
 obtain ⟨r3,hr3⟩ : ∃ l,l = r2.drop x2:=⟨_,rfl⟩
 rw [← hn2] at HN2 ⊢
 rw [← hr3] at HN2 HN3 ⊢
 obtain ⟨n3,hn3⟩ : ∃ z,z = Cp.numI (r3.take x3):=⟨_,rfl⟩
 obtain ⟨r4,hr4⟩ : ∃ l,l = r3.drop x3:=⟨_,rfl⟩
 rw [← hn3] at HN3 ⊢
 rw [← hr4] at HN3 ⊢
 have HS:=hid (fun W=>signed_any n1 x1 W hwn)
 obtain ⟨sn,hsn⟩ : ∃ z,z = sgn n1 x1:=⟨_,rfl⟩
 rw [← hsn] at HS ⊢
 have HSn:=hid hsn
 have HTb:=hid (fun W (h : w.grownBy W (some pb))=>ht.grown h (fun k e=>by have:=Option.some.inj e;omega))
 have hc5 : ((c.toNat : Int) == 5 && decide (room < 2)) = false:=by
  rw [Bool.and_eq_false_iff]
  by_cases h5 : (c.toNat : Int) = 5
  ·exact .inr (decide_eq_false (fun e=>hlast ⟨h5,e⟩))
  ·exact .inl (by simpa using h5)
 have hc5' : ((c.toNat : Int) == 5) = false ∨ (((c.toNat : Int) == 5) = true ∧ decide (room < 2) = false):=by
  cases h5 : ((c.toNat : Int) == 5) with
  | false=>exact .inl rfl
  | true=>rw [h5] at hc5;exact .inr ⟨rfl,by simpa using hc5⟩
 clear HW0 HTx0 hw hk hlast hx h1 h2 h3 hst hn1 hn2 hn3 hr2 hr3 hr4 hwn hwl hsn ht hr hc5
 rcases hc5' with hc5|⟨hc5,hroom⟩
 ·go_enter Tryz.func214,Tryz.ntmps214
  go_wp2_with (first|(go_at_call 218;refine (HTx.out _ HSt.out.rd).mono ?_;rintro e w3 ⟨rfl,hs3⟩;have HSt3:=hid (HSt.out.stp hs3);have c51:=HSt3.out.b5.cell 1;have f51:=HSt3.out.b5.frozen 1;simp [cC] at c51)|(go_at_call 144;refine (HW.out _ (HTb.out _ ?_)).mono ?_;exact grown_trans (grown_trans (grown_of_below ((Below.refl _ w).alloc (Nat.le_refl _) _) _) hs1.1) (grown_of_below ((Below.refl _ w1).alloc (Nat.le_refl _) _) _);rintro e w2 ⟨rfl,hb2⟩;have HSt:=hid (EnSt.new (x:=#[.int .i64 x0,.int .i64 x1,.int .i64 x2,.int .i64 x3]) hps hs1 hb2);have c50:=hb2.cell (p:=⟨w1.heap.size,0,none⟩) (by simp);simp [go_sem] at c50;have zz:=hb2.size;simp only [World.size_alloc] at zz;have zz1 : w1.heap.size < w2.heap.size:=(by omega);have zw:=hs1.1.size;simp only [World.size_alloc] at zw;have zw1 : ¬ w.heap.size = w1.heap.size:=(by omega);have zw2 : ¬ w1.heap.size = w2.heap.size:=(by omega);have zw3 : ¬ w.heap.size = w2.heap.size:=(by omega);clear zz zw)|(go_at_call 213;refine (HN0.out _ BLw).mono ?_;rintro e w1 ⟨rfl,hs1⟩))
  have HSt4:=hid (HSt3.out.set 1 (.string st) ⟨c.toNat,st,0,0,0⟩ rfl)
  obtain ⟨W,hW⟩ : ∃ W,W = w3.setCell ⟨w1.heap.size,1,none⟩ (.string st):=⟨_,rfl⟩
  rw [← hW] at HSt4 ⊢
  have y1:=HSt4.out.b6.cell 1
  have z2:=HSt4.out.b5.cell 2
  have f2:=HSt4.out.b5.frozen 2
  have hWs:=HSt4.out.b5.sz
  have hWt:=HSt4.out.b6.sz
  simp [cC] at y1 z2
  clear hW c50 c51 f51 hs1 hb2 hs3
  go_region_law (first|(have _g:=hs4;refine Kit.step_call2 rfl 202 (.tmp 37) (.tmp 39) 2 3 rfl _ _ rfl rfl (cf_signed _ _ _) _ (HS.out _) ?_;rintro e w5 ⟨rfl,rfl⟩;refine ⟨_,rfl,?_⟩)|(refine Kit.step_call2 rfl 213 (.tmp 34) (.tmp 36) 229 3 rfl _ _ rfl rfl (cf_number _ _ _) _ (HN1.out _ ?_) ?_;(first|with_reducible exact HSt4.out.rd|with_reducible exact HSt4.out.drew.rd);rintro e w4 ⟨rfl,hs4⟩;refine ⟨_,rfl,?_⟩;have HSt5:=hid (HSt4.out.drew.stp hs4);have y1:=HSt5.out.b6.cell 1;have y2:=HSt5.out.b6.cell 2;have z2:=HSt5.out.b5.cell 2;have z3:=HSt5.out.b5.cell 3;have f2:=HSt5.out.b5.frozen 2;have f3:=HSt5.out.b5.frozen 3;have hWs:=HSt5.out.b5.sz;have hWt:=HSt5.out.b6.sz;simp [cC] at y1 y2 z2 z3))
  all_goals
   have HSt6:=hid (HSt5.out.set 2 (.int .i64 sn) ⟨c.toNat,st,sn,0,0⟩ rfl)
   go_wp2_with (first|(go_at_call 213;have _g:=HSt8;(with_reducible refine (HN3.out _ HSt8.out.rd).mono ?_);rintro e w6 ⟨rfl,hs6⟩;have HSt9:=hid (HSt8.out.stp hs6);have y4:=HSt9.out.b5.frozen 4;have z0:=HSt9.out.b5.cell 0;have z1:=HSt9.out.b5.cell 1;have z2:=HSt9.out.b5.cell 2;have z3:=HSt9.out.b5.cell 3;have z4:=HSt9.out.b5.cell 4;have t0:=HSt9.out.b4.cell 0;have t1:=HSt9.out.b4.cell 1;have t2:=HSt9.out.b4.cell 2;have t3:=HSt9.out.b4.cell 3;have t4:=HSt9.out.b4.cell 4;have q0:=HSt9.out.b4.frozen 0;have q1:=HSt9.out.b4.frozen 1;have q2:=HSt9.out.b4.frozen 2;have q3:=HSt9.out.b4.frozen 3;have q4:=HSt9.out.b4.frozen 4;simp [cC,Cp.C0] at z0 z1 z2 z3 z4 t0 t1 t2 t3 t4)|(go_at_call 213;(with_reducible refine (HN2.out _ HSt6.out.rd).mono ?_);rintro e w5 ⟨rfl,hs5⟩;have HSt7:=hid (HSt6.out.stp hs5);have HSt8:=hid (HSt7.out.set 3 (.int .i64 n2) ⟨c.toNat,st,sn,n2,0⟩ rfl);have y3:=HSt7.out.b6.cell 3;have z3:=HSt7.out.b5.cell 3;have z4:=HSt7.out.b5.cell 4;have f3:=HSt7.out.b5.frozen 3;have f4:=HSt7.out.b5.frozen 4;simp [cC] at y3 z3 z4))
   have HStA:=hid (HSt9.out.set 4 (.int .i64 n3) ⟨c.toNat,st,sn,n2,n3⟩ rfl)
   have hS : Stp pb r4 w _:=⟨HStA.out.gr,HStA.out.rd⟩
   have hZ:=((((hS.set (Nat.le_refl _) hps 0 (.int .i64 c.toNat)).set (Nat.le_refl _) hps 1 (.string st)).set (Nat.le_refl _) hps 2 (.int .i64 sn)).set (Nat.le_refl _) hps 3 (.int .i64 n2)).set (Nat.le_refl _) hps 4 (.int .i64 n3)
   exact bodyPost_ret (v:=.agg #[.int .i64 c.toNat,.string st,.int .i64 sn,.int .i64 n2,.int .i64 n3]) (by simp [results,Tryz.results214,go_sem,t0,t1,t2,t3,t4]) rfl ⟨rfl,hZ⟩
 ·go_enter Tryz.func214,Tryz.ntmps214
  go_wp2_with (first|(go_at_call 218;refine (HTx.out _ HSt.out.rd).mono ?_;rintro e w3 ⟨rfl,hs3⟩;have HSt3:=hid (HSt.out.stp hs3);have c51:=HSt3.out.b5.cell 1;have f51:=HSt3.out.b5.frozen 1;simp [cC] at c51)|(go_at_call 144;refine (HW.out _ (HTb.out _ ?_)).mono ?_;exact grown_trans (grown_trans (grown_of_below ((Below.refl _ w).alloc (Nat.le_refl _) _) _) hs1.1) (grown_of_below ((Below.refl _ w1).alloc (Nat.le_refl _) _) _);rintro e w2 ⟨rfl,hb2⟩;have HSt:=hid (EnSt.new (x:=#[.int .i64 x0,.int .i64 x1,.int .i64 x2,.int .i64 x3]) hps hs1 hb2);have c50:=hb2.cell (p:=⟨w1.heap.size,0,none⟩) (by simp);simp [go_sem] at c50;have zz:=hb2.size;simp only [World.size_alloc] at zz;have zz1 : w1.heap.size < w2.heap.size:=(by omega);have zw:=hs1.1.size;simp only [World.size_alloc] at zw;have zw1 : ¬ w.heap.size = w1.heap.size:=(by omega);have zw2 : ¬ w1.heap.size = w2.heap.size:=(by omega);have zw3 : ¬ w.heap.size = w2.heap.size:=(by omega);clear zz zw)|(go_at_call 213;refine (HN0.out _ BLw).mono ?_;rintro e w1 ⟨rfl,hs1⟩))
  have HSt4:=hid (HSt3.out.set 1 (.string st) ⟨c.toNat,st,0,0,0⟩ rfl)
  obtain ⟨W,hW⟩ : ∃ W,W = w3.setCell ⟨w1.heap.size,1,none⟩ (.string st):=⟨_,rfl⟩
  rw [← hW] at HSt4 ⊢
  have y1:=HSt4.out.b6.cell 1
  have z2:=HSt4.out.b5.cell 2
  have f2:=HSt4.out.b5.frozen 2
  have hWs:=HSt4.out.b5.sz
  have hWt:=HSt4.out.b6.sz
  simp [cC] at y1 z2
  clear hW c50 c51 f51 hs1 hb2 hs3
  go_region_law (first|(have _g:=hs4;refine Kit.step_call2 rfl 202 (.tmp 37) (.tmp 39) 2 3 rfl _ _ rfl rfl (cf_signed _ _ _) _ (HS.out _) ?_;rintro e w5 ⟨rfl,rfl⟩;refine ⟨_,rfl,?_⟩)|(refine Kit.step_call2 rfl 213 (.tmp 34) (.tmp 36) 229 3 rfl _ _ rfl rfl (cf_number _ _ _) _ (HN1.out _ ?_) ?_;(first|with_reducible exact HSt4.out.rd|with_reducible exact HSt4.out.drew.rd);rintro e w4 ⟨rfl,hs4⟩;refine ⟨_,rfl,?_⟩;have HSt5:=hid (HSt4.out.drew.stp hs4);have y1:=HSt5.out.b6.cell 1;have y2:=HSt5.out.b6.cell 2;have z2:=HSt5.out.b5.cell 2;have z3:=HSt5.out.b5.cell 3;have f2:=HSt5.out.b5.frozen 2;have f3:=HSt5.out.b5.frozen 3;have hWs:=HSt5.out.b5.sz;have hWt:=HSt5.out.b6.sz;simp [cC] at y1 y2 z2 z3))
  all_goals
   have HSt6:=hid (HSt5.out.set 2 (.int .i64 sn) ⟨c.toNat,st,sn,0,0⟩ rfl)
   go_wp2_with (first|(go_at_call 213;have _g:=HSt8;(with_reducible refine (HN3.out _ HSt8.out.rd).mono ?_);rintro e w6 ⟨rfl,hs6⟩;have HSt9:=hid (HSt8.out.stp hs6);have y4:=HSt9.out.b5.frozen 4;have z0:=HSt9.out.b5.cell 0;have z1:=HSt9.out.b5.cell 1;have z2:=HSt9.out.b5.cell 2;have z3:=HSt9.out.b5.cell 3;have z4:=HSt9.out.b5.cell 4;have t0:=HSt9.out.b4.cell 0;have t1:=HSt9.out.b4.cell 1;have t2:=HSt9.out.b4.cell 2;have t3:=HSt9.out.b4.cell 3;have t4:=HSt9.out.b4.cell 4;have q0:=HSt9.out.b4.frozen 0;have q1:=HSt9.out.b4.frozen 1;have q2:=HSt9.out.b4.frozen 2;have q3:=HSt9.out.b4.frozen 3;have q4:=HSt9.out.b4.frozen 4;simp [cC,Cp.C0] at z0 z1 z2 z3 z4 t0 t1 t2 t3 t4)|(go_at_call 213;(with_reducible refine (HN2.out _ HSt6.out.rd).mono ?_);rintro e w5 ⟨rfl,hs5⟩;have HSt7:=hid (HSt6.out.stp hs5);have HSt8:=hid (HSt7.out.set 3 (.int .i64 n2) ⟨c.toNat,st,sn,n2,0⟩ rfl);have y3:=HSt7.out.b6.cell 3;have z3:=HSt7.out.b5.cell 3;have z4:=HSt7.out.b5.cell 4;have f3:=HSt7.out.b5.frozen 3;have f4:=HSt7.out.b5.frozen 4;simp [cC] at y3 z3 z4))
   have HStA:=hid (HSt9.out.set 4 (.int .i64 n3) ⟨c.toNat,st,sn,n2,n3⟩ rfl)
   have hS : Stp pb r4 w _:=⟨HStA.out.gr,HStA.out.rd⟩
   have hZ:=((((hS.set (Nat.le_refl _) hps 0 (.int .i64 c.toNat)).set (Nat.le_refl _) hps 1 (.string st)).set (Nat.le_refl _) hps 2 (.int .i64 sn)).set (Nat.le_refl _) hps 3 (.int .i64 n2)).set (Nat.le_refl _) hps 4 (.int .i64 n3)
   exact bodyPost_ret (v:=.agg #[.int .i64 c.toNat,.string st,.int .i64 sn,.int .i64 n2,.int .i64 n3]) (by simp [results,Tryz.results214,go_sem,t0,t1,t2,t3,t4]) rfl ⟨rfl,hZ⟩
set_option maxHeartbeats 400000 in
theorem entry_text (pb : Nat) (room : Int) (c : UInt8) (r : List UInt8) (er : Int) (x0 x1 x2 x3 : Nat) (w : World) (ht1 : 1 ≤ pb) (ht : Tabs w) (hr : Rdr w pb (c :: r))
  (hw : Cp.wd (c.toNat : Nat) = (x0,x1,x2,x3)) (hk : Cp.knownB (c.toNat : Nat) = true) (hlast : ¬ ((c.toNat : Int) = 5 ∧ room < 2)) (hx : txP x0 r = .error er) :
  Calls Tryz.prog 214 #[.pointer (some ⟨pb,0,none⟩),.int .i64 room] w (EnPost pb (.error er) w):=by
 unfold EnPost Bad
 dsimp only
 have hps:=hr.sz
 have hwn:=wd_n (c.toNat : Nat)
 have hwl:=wd_le (c.toNat : Nat)
 have HW0:=fun W (h : Tabs W)=>widthsOf_any c.toNat W h
 rw [hw] at HW0 hwn hwl
 rw [hk] at HW0
 dsimp only at HW0 hwn hwl
 have HW:=hid HW0
 have HN0:=hid (fun W (h : Below w.heap.size w W)=>number_ok pb 1 (c :: r) W (hr.below h hps) (by simp))
 rw [show (c :: r).take 1 = [c] from rfl,numI_one,show (c :: r).drop 1 = r from rfl] at HN0
 have HTx0:=fun W (h : Rdr W pb r)=>text_any pb x0 r W h hwl.1
 rw [hx] at HTx0
 unfold TxPost Bad at HTx0
 dsimp only at HTx0
 have HTx:=hid HTx0
 have HTb:=hid (fun W (h : w.grownBy W (some pb))=>ht.grown h (fun k e=>by have:=Option.some.inj e;omega))
 have hc5' : ((c.toNat : Int) == 5) = false ∨ (((c.toNat : Int) == 5) = true ∧ decide (room < 2) = false):=by
  by_cases h5 : (c.toNat : Int) = 5
  ·exact .inr ⟨by simpa using h5,decide_eq_false (fun e=>hlast ⟨h5,e⟩)⟩
  ·exact .inl (by simpa using h5)
 unfold pan at HTx ⊢
 clear HW0 HTx0 hw hk hlast hx hwn hwl ht hr
 rcases hc5' with hc5|⟨hc5,hroom⟩
 ·go_enter Tryz.func214,Tryz.ntmps214
  go_wp2_with (first|(go_at_call 218;refine (HTx.out _ HSt.out.rd).mono ?_;rintro e w3 ⟨rfl,hg3⟩)|(go_at_call 144;refine (HW.out _ (HTb.out _ ?_)).mono ?_;exact grown_trans (grown_trans (grown_of_below ((Below.refl _ w).alloc (Nat.le_refl _) _) _) hs1.1) (grown_of_below ((Below.refl _ w1).alloc (Nat.le_refl _) _) _);rintro e w2 ⟨rfl,hb2⟩;have HSt:=hid (EnSt.new (x:=#[.int .i64 x0,.int .i64 x1,.int .i64 x2,.int .i64 x3]) hps hs1 hb2);have c50:=hb2.cell (p:=⟨w1.heap.size,0,none⟩) (by simp);simp [go_sem] at c50;have zz:=hb2.size;simp only [World.size_alloc] at zz;have zz1 : w1.heap.size < w2.heap.size:=(by omega);have zw:=hs1.1.size;simp only [World.size_alloc] at zw;have zw1 : ¬ w.heap.size = w1.heap.size:=(by omega);have zw2 : ¬ w1.heap.size = w2.heap.size:=(by omega);have zw3 : ¬ w.heap.size = w2.heap.size:=(by omega);clear zz zw)|(go_at_call 213;refine (HN0.out _ BLw).mono ?_;rintro e w1 ⟨rfl,hs1⟩))
  exact ⟨rfl,rfl,grown_trans HSt.out.gr hg3⟩
 ·go_enter Tryz.func214,Tryz.ntmps214
  go_wp2_with (first|(go_at_call 218;refine (HTx.out _ HSt.out.rd).mono ?_;rintro e w3 ⟨rfl,hg3⟩)|(go_at_call 144;refine (HW.out _ (HTb.out _ ?_)).mono ?_;exact grown_trans (grown_trans (grown_of_below ((Below.refl _ w).alloc (Nat.le_refl _) _) _) hs1.1) (grown_of_below ((Below.refl _ w1).alloc (Nat.le_refl _) _) _);rintro e w2 ⟨rfl,hb2⟩;have HSt:=hid (EnSt.new (x:=#[.int .i64 x0,.int .i64 x1,.int .i64 x2,.int .i64 x3]) hps hs1 hb2);have c50:=hb2.cell (p:=⟨w1.heap.size,0,none⟩) (by simp);simp [go_sem] at c50;have zz:=hb2.size;simp only [World.size_alloc] at zz;have zz1 : w1.heap.size < w2.heap.size:=(by omega);have zw:=hs1.1.size;simp only [World.size_alloc] at zw;have zw1 : ¬ w.heap.size = w1.heap.size:=(by omega);have zw2 : ¬ w1.heap.size = w2.heap.size:=(by omega);have zw3 : ¬ w.heap.size = w2.heap.size:=(by omega);clear zz zw)|(go_at_call 213;refine (HN0.out _ BLw).mono ?_;rintro e w1 ⟨rfl,hs1⟩))
  exact ⟨rfl,rfl,grown_trans HSt.out.gr hg3⟩
set_option maxHeartbeats 400000 in
theorem entry_n (pb : Nat) (room : Int) (c : UInt8) (r r1 s : List UInt8) (x0 x1 x2 x3 : Nat) (w : World) (ht1 : 1 ≤ pb) (ht : Tabs w) (hr : Rdr w pb (c :: r))
  (hw : Cp.wd (c.toNat : Nat) = (x0,x1,x2,x3)) (hk : Cp.knownB (c.toNat : Nat) = true) (hlast : ¬ ((c.toNat : Int) = 5 ∧ room < 2)) (hx : txP x0 r = .ok (s,r1)) (h1 : r1.length < x1) :
  Calls Tryz.prog 214 #[.pointer (some ⟨pb,0,none⟩),.int .i64 room] w (EnPost pb (.error 30) w):=by
 unfold EnPost Bad
 dsimp only
 have hps:=hr.sz
 have hwn:=wd_n (c.toNat : Nat)
 have hwl:=wd_le (c.toNat : Nat)
 have HW0:=fun W (h : Tabs W)=>widthsOf_any c.toNat W h
 rw [hw] at HW0 hwn hwl
 rw [hk] at HW0
 dsimp only at HW0 hwn hwl
 have HW:=hid HW0
 have HN0:=hid (fun W (h : Below w.heap.size w W)=>number_ok pb 1 (c :: r) W (hr.below h hps) (by simp))
 rw [show (c :: r).take 1 = [c] from rfl,numI_one,show (c :: r).drop 1 = r from rfl] at HN0
 have HTx0:=fun W (h : Rdr W pb r)=>text_any pb x0 r W h hwl.1
 rw [hx] at HTx0
 unfold TxPost at HTx0
 dsimp only at HTx0
 have HTx:=hid HTx0
 have HTb:=hid (fun W (h : w.grownBy W (some pb))=>ht.grown h (fun k e=>by have:=Option.some.inj e;omega))
 obtain ⟨st,hst⟩ : ∃ st : ByteArray,st = ⟨s.toArray⟩:=⟨_,rfl⟩
 rw [← hst] at HTx
 have HN1:=hid (fun W (h : Rdr W pb r1)=>number_bad pb x1 r1 W h h1 (by omega))
 have hc5' : ((c.toNat : Int) == 5) = false ∨ (((c.toNat : Int) == 5) = true ∧ decide (room < 2) = false):=by
  by_cases h5 : (c.toNat : Int) = 5
  ·exact .inr ⟨by simpa using h5,decide_eq_false (fun e=>hlast ⟨h5,e⟩)⟩
  ·exact .inl (by simpa using h5)
 unfold pan at HN1 ⊢
 clear HW0 HTx0 hw hk hlast hx hwn hwl ht hr hst h1
 rcases hc5' with hc5|⟨hc5,hroom⟩
 ·go_enter Tryz.func214,Tryz.ntmps214
  go_wp2_with (first|(go_at_call 218;refine (HTx.out _ HSt.out.rd).mono ?_;rintro e w3 ⟨rfl,hs3⟩;have HSt3:=hid (HSt.out.stp hs3);have c51:=HSt3.out.b5.cell 1;have f51:=HSt3.out.b5.frozen 1;simp [cC] at c51)|(go_at_call 144;refine (HW.out _ (HTb.out _ ?_)).mono ?_;exact grown_trans (grown_trans (grown_of_below ((Below.refl _ w).alloc (Nat.le_refl _) _) _) hs1.1) (grown_of_below ((Below.refl _ w1).alloc (Nat.le_refl _) _) _);rintro e w2 ⟨rfl,hb2⟩;have HSt:=hid (EnSt.new (x:=#[.int .i64 x0,.int .i64 x1,.int .i64 x2,.int .i64 x3]) hps hs1 hb2);have c50:=hb2.cell (p:=⟨w1.heap.size,0,none⟩) (by simp);simp [go_sem] at c50;have zz:=hb2.size;simp only [World.size_alloc] at zz;have zz1 : w1.heap.size < w2.heap.size:=(by omega);have zw:=hs1.1.size;simp only [World.size_alloc] at zw;have zw1 : ¬ w.heap.size = w1.heap.size:=(by omega);have zw2 : ¬ w1.heap.size = w2.heap.size:=(by omega);have zw3 : ¬ w.heap.size = w2.heap.size:=(by omega);clear zz zw)|(go_at_call 213;refine (HN0.out _ BLw).mono ?_;rintro e w1 ⟨rfl,hs1⟩))
  have HSt4:=hid (HSt3.out.set 1 (.string st) ⟨c.toNat,st,0,0,0⟩ rfl)
  obtain ⟨W,hW⟩ : ∃ W,W = w3.setCell ⟨w1.heap.size,1,none⟩ (.string st):=⟨_,rfl⟩
  rw [← hW] at HSt4 ⊢
  have y1:=HSt4.out.b6.cell 1
  have z2:=HSt4.out.b5.cell 2
  have f2:=HSt4.out.b5.frozen 2
  have hWs:=HSt4.out.b5.sz
  have hWt:=HSt4.out.b6.sz
  simp [cC] at y1 z2
  clear hW c50 c51 f51 hs1 hb2 hs3
  go_region_dies
  all_goals
   refine (HN1.out _ (by first|with_reducible exact HSt4.out.rd|with_reducible exact HSt4.out.drew.rd)).mono ?_
   rintro e w4 ⟨rfl,rfl⟩
   try dsimp only
   try go_wp2
  all_goals exact ⟨rfl,rfl,HSt4.out.drew.gr⟩
 ·go_enter Tryz.func214,Tryz.ntmps214
  go_wp2_with (first|(go_at_call 218;refine (HTx.out _ HSt.out.rd).mono ?_;rintro e w3 ⟨rfl,hs3⟩;have HSt3:=hid (HSt.out.stp hs3);have c51:=HSt3.out.b5.cell 1;have f51:=HSt3.out.b5.frozen 1;simp [cC] at c51)|(go_at_call 144;refine (HW.out _ (HTb.out _ ?_)).mono ?_;exact grown_trans (grown_trans (grown_of_below ((Below.refl _ w).alloc (Nat.le_refl _) _) _) hs1.1) (grown_of_below ((Below.refl _ w1).alloc (Nat.le_refl _) _) _);rintro e w2 ⟨rfl,hb2⟩;have HSt:=hid (EnSt.new (x:=#[.int .i64 x0,.int .i64 x1,.int .i64 x2,.int .i64 x3]) hps hs1 hb2);have c50:=hb2.cell (p:=⟨w1.heap.size,0,none⟩) (by simp);simp [go_sem] at c50;have zz:=hb2.size;simp only [World.size_alloc] at zz;have zz1 : w1.heap.size < w2.heap.size:=(by omega);have zw:=hs1.1.size;simp only [World.size_alloc] at zw;have zw1 : ¬ w.heap.size = w1.heap.size:=(by omega);have zw2 : ¬ w1.heap.size = w2.heap.size:=(by omega);have zw3 : ¬ w.heap.size = w2.heap.size:=(by omega);clear zz zw)|(go_at_call 213;refine (HN0.out _ BLw).mono ?_;rintro e w1 ⟨rfl,hs1⟩))
  have HSt4:=hid (HSt3.out.set 1 (.string st) ⟨c.toNat,st,0,0,0⟩ rfl)
  obtain ⟨W,hW⟩ : ∃ W,W = w3.setCell ⟨w1.heap.size,1,none⟩ (.string st):=⟨_,rfl⟩
  rw [← hW] at HSt4 ⊢
  have y1:=HSt4.out.b6.cell 1
  have z2:=HSt4.out.b5.cell 2
  have f2:=HSt4.out.b5.frozen 2
  have hWs:=HSt4.out.b5.sz
  have hWt:=HSt4.out.b6.sz
  simp [cC] at y1 z2
  clear hW c50 c51 f51 hs1 hb2 hs3
  go_region_dies
  all_goals
   refine (HN1.out _ (by first|with_reducible exact HSt4.out.rd|with_reducible exact HSt4.out.drew.rd)).mono ?_
   rintro e w4 ⟨rfl,rfl⟩
   try dsimp only
   try go_wp2
  all_goals exact ⟨rfl,rfl,HSt4.out.drew.gr⟩
set_option maxHeartbeats 400000 in
theorem entry_a (pb : Nat) (room : Int) (c : UInt8) (r r1 s : List UInt8) (x0 x1 x2 x3 : Nat) (w : World) (ht1 : 1 ≤ pb) (ht : Tabs w) (hr : Rdr w pb (c :: r))
  (hw : Cp.wd (c.toNat : Nat) = (x0,x1,x2,x3)) (hk : Cp.knownB (c.toNat : Nat) = true) (hlast : ¬ ((c.toNat : Int) = 5 ∧ room < 2)) (hx : txP x0 r = .ok (s,r1)) (h1 : x1 ≤ r1.length) (h2 : (r1.drop x1).length < x2) :
  Calls Tryz.prog 214 #[.pointer (some ⟨pb,0,none⟩),.int .i64 room] w (EnPost pb (.error 30) w):=by
 unfold EnPost Bad
 dsimp only
 have hps:=hr.sz
 have hwn:=wd_n (c.toNat : Nat)
 have hwl:=wd_le (c.toNat : Nat)
 have HW0:=fun W (h : Tabs W)=>widthsOf_any c.toNat W h
 rw [hw] at HW0 hwn hwl
 rw [hk] at HW0
 dsimp only at HW0 hwn hwl
 have HW:=hid HW0
 have HN0:=hid (fun W (h : Below w.heap.size w W)=>number_ok pb 1 (c :: r) W (hr.below h hps) (by simp))
 rw [show (c :: r).take 1 = [c] from rfl,numI_one,show (c :: r).drop 1 = r from rfl] at HN0
 have HTx0:=fun W (h : Rdr W pb r)=>text_any pb x0 r W h hwl.1
 rw [hx] at HTx0
 unfold TxPost at HTx0
 dsimp only at HTx0
 have HTx:=hid HTx0
 have HTb:=hid (fun W (h : w.grownBy W (some pb))=>ht.grown h (fun k e=>by have:=Option.some.inj e;omega))
 obtain ⟨st,hst⟩ : ∃ st : ByteArray,st = ⟨s.toArray⟩:=⟨_,rfl⟩
 rw [← hst] at HTx
 have HN1:=hid (fun W (h : Rdr W pb r1)=>number_ok pb x1 r1 W h h1)
 obtain ⟨n1,hn1⟩ : ∃ z,z = Cp.numI (r1.take x1):=⟨_,rfl⟩
 obtain ⟨r2,hr2⟩ : ∃ l,l = r1.drop x1:=⟨_,rfl⟩
 rw [← hn1,← hr2] at HN1
 rw [← hr2] at h2
 have HS:=hid (fun W=>signed_any n1 x1 W hwn)
 obtain ⟨sn,hsn⟩ : ∃ z,z = sgn n1 x1:=⟨_,rfl⟩
 rw [← hsn] at HS
 have HN2:=hid (fun W (h : Rdr W pb r2)=>number_bad pb x2 r2 W h h2 (by omega))
 have hc5' : ((c.toNat : Int) == 5) = false ∨ (((c.toNat : Int) == 5) = true ∧ decide (room < 2) = false):=by
  by_cases h5 : (c.toNat : Int) = 5
  ·exact .inr ⟨by simpa using h5,decide_eq_false (fun e=>hlast ⟨h5,e⟩)⟩
  ·exact .inl (by simpa using h5)
 unfold pan at HN2 ⊢
 clear HW0 HTx0 hw hk hlast hx hwn hwl ht hr hst h1 h2 hn1 hr2 hsn
 rcases hc5' with hc5|⟨hc5,hroom⟩
 ·go_enter Tryz.func214,Tryz.ntmps214
  go_wp2_with (first|(go_at_call 218;refine (HTx.out _ HSt.out.rd).mono ?_;rintro e w3 ⟨rfl,hs3⟩;have HSt3:=hid (HSt.out.stp hs3);have c51:=HSt3.out.b5.cell 1;have f51:=HSt3.out.b5.frozen 1;simp [cC] at c51)|(go_at_call 144;refine (HW.out _ (HTb.out _ ?_)).mono ?_;exact grown_trans (grown_trans (grown_of_below ((Below.refl _ w).alloc (Nat.le_refl _) _) _) hs1.1) (grown_of_below ((Below.refl _ w1).alloc (Nat.le_refl _) _) _);rintro e w2 ⟨rfl,hb2⟩;have HSt:=hid (EnSt.new (x:=#[.int .i64 x0,.int .i64 x1,.int .i64 x2,.int .i64 x3]) hps hs1 hb2);have c50:=hb2.cell (p:=⟨w1.heap.size,0,none⟩) (by simp);simp [go_sem] at c50;have zz:=hb2.size;simp only [World.size_alloc] at zz;have zz1 : w1.heap.size < w2.heap.size:=(by omega);have zw:=hs1.1.size;simp only [World.size_alloc] at zw;have zw1 : ¬ w.heap.size = w1.heap.size:=(by omega);have zw2 : ¬ w1.heap.size = w2.heap.size:=(by omega);have zw3 : ¬ w.heap.size = w2.heap.size:=(by omega);clear zz zw)|(go_at_call 213;refine (HN0.out _ BLw).mono ?_;rintro e w1 ⟨rfl,hs1⟩))
  have HSt4:=hid (HSt3.out.set 1 (.string st) ⟨c.toNat,st,0,0,0⟩ rfl)
  obtain ⟨W,hW⟩ : ∃ W,W = w3.setCell ⟨w1.heap.size,1,none⟩ (.string st):=⟨_,rfl⟩
  rw [← hW] at HSt4 ⊢
  have y1:=HSt4.out.b6.cell 1
  have z2:=HSt4.out.b5.cell 2
  have f2:=HSt4.out.b5.frozen 2
  have hWs:=HSt4.out.b5.sz
  have hWt:=HSt4.out.b6.sz
  simp [cC] at y1 z2
  clear hW c50 c51 f51 hs1 hb2 hs3
  go_region_law (first|(have _g:=hs4;refine Kit.step_call2 rfl 202 (.tmp 37) (.tmp 39) 2 3 rfl _ _ rfl rfl (cf_signed _ _ _) _ (HS.out _) ?_;rintro e w5 ⟨rfl,rfl⟩;refine ⟨_,rfl,?_⟩)|(refine Kit.step_call2 rfl 213 (.tmp 34) (.tmp 36) 229 3 rfl _ _ rfl rfl (cf_number _ _ _) _ (HN1.out _ ?_) ?_;(first|with_reducible exact HSt4.out.rd|with_reducible exact HSt4.out.drew.rd);rintro e w4 ⟨rfl,hs4⟩;refine ⟨_,rfl,?_⟩;have HSt5:=hid (HSt4.out.drew.stp hs4);have y1:=HSt5.out.b6.cell 1;have y2:=HSt5.out.b6.cell 2;have z2:=HSt5.out.b5.cell 2;have z3:=HSt5.out.b5.cell 3;have f2:=HSt5.out.b5.frozen 2;have f3:=HSt5.out.b5.frozen 3;have hWs:=HSt5.out.b5.sz;have hWt:=HSt5.out.b6.sz;simp [cC] at y1 y2 z2 z3))
  all_goals
   have HSt6:=hid (HSt5.out.set 2 (.int .i64 sn) ⟨c.toNat,st,sn,0,0⟩ rfl)
   go_wp2_with (first|(go_at_call 213;(with_reducible refine (HN2.out _ HSt6.out.rd).mono ?_);rintro e w5 ⟨rfl,rfl⟩))
   exact ⟨rfl,rfl,HSt6.out.gr⟩
 ·go_enter Tryz.func214,Tryz.ntmps214
  go_wp2_with (first|(go_at_call 218;refine (HTx.out _ HSt.out.rd).mono ?_;rintro e w3 ⟨rfl,hs3⟩;have HSt3:=hid (HSt.out.stp hs3);have c51:=HSt3.out.b5.cell 1;have f51:=HSt3.out.b5.frozen 1;simp [cC] at c51)|(go_at_call 144;refine (HW.out _ (HTb.out _ ?_)).mono ?_;exact grown_trans (grown_trans (grown_of_below ((Below.refl _ w).alloc (Nat.le_refl _) _) _) hs1.1) (grown_of_below ((Below.refl _ w1).alloc (Nat.le_refl _) _) _);rintro e w2 ⟨rfl,hb2⟩;have HSt:=hid (EnSt.new (x:=#[.int .i64 x0,.int .i64 x1,.int .i64 x2,.int .i64 x3]) hps hs1 hb2);have c50:=hb2.cell (p:=⟨w1.heap.size,0,none⟩) (by simp);simp [go_sem] at c50;have zz:=hb2.size;simp only [World.size_alloc] at zz;have zz1 : w1.heap.size < w2.heap.size:=(by omega);have zw:=hs1.1.size;simp only [World.size_alloc] at zw;have zw1 : ¬ w.heap.size = w1.heap.size:=(by omega);have zw2 : ¬ w1.heap.size = w2.heap.size:=(by omega);have zw3 : ¬ w.heap.size = w2.heap.size:=(by omega);clear zz zw)|(go_at_call 213;refine (HN0.out _ BLw).mono ?_;rintro e w1 ⟨rfl,hs1⟩))
  have HSt4:=hid (HSt3.out.set 1 (.string st) ⟨c.toNat,st,0,0,0⟩ rfl)
  obtain ⟨W,hW⟩ : ∃ W,W = w3.setCell ⟨w1.heap.size,1,none⟩ (.string st):=⟨_,rfl⟩
  rw [← hW] at HSt4 ⊢
  have y1:=HSt4.out.b6.cell 1
  have z2:=HSt4.out.b5.cell 2
  have f2:=HSt4.out.b5.frozen 2
  have hWs:=HSt4.out.b5.sz
  have hWt:=HSt4.out.b6.sz
  simp [cC] at y1 z2
  clear hW c50 c51 f51 hs1 hb2 hs3
  go_region_law (first|(have _g:=hs4;refine Kit.step_call2 rfl 202 (.tmp 37) (.tmp 39) 2 3 rfl _ _ rfl rfl (cf_signed _ _ _) _ (HS.out _) ?_;rintro e w5 ⟨rfl,rfl⟩;refine ⟨_,rfl,?_⟩)|(refine Kit.step_call2 rfl 213 (.tmp 34) (.tmp 36) 229 3 rfl _ _ rfl rfl (cf_number _ _ _) _ (HN1.out _ ?_) ?_;(first|with_reducible exact HSt4.out.rd|with_reducible exact HSt4.out.drew.rd);rintro e w4 ⟨rfl,hs4⟩;refine ⟨_,rfl,?_⟩;have HSt5:=hid (HSt4.out.drew.stp hs4);have y1:=HSt5.out.b6.cell 1;have y2:=HSt5.out.b6.cell 2;have z2:=HSt5.out.b5.cell 2;have z3:=HSt5.out.b5.cell 3;have f2:=HSt5.out.b5.frozen 2;have f3:=HSt5.out.b5.frozen 3;have hWs:=HSt5.out.b5.sz;have hWt:=HSt5.out.b6.sz;simp [cC] at y1 y2 z2 z3))
  all_goals
   have HSt6:=hid (HSt5.out.set 2 (.int .i64 sn) ⟨c.toNat,st,sn,0,0⟩ rfl)
   go_wp2_with (first|(go_at_call 213;(with_reducible refine (HN2.out _ HSt6.out.rd).mono ?_);rintro e w5 ⟨rfl,rfl⟩))
   exact ⟨rfl,rfl,HSt6.out.gr⟩
set_option maxHeartbeats 400000 in
theorem entry_b (pb : Nat) (room : Int) (c : UInt8) (r r1 s : List UInt8) (x0 x1 x2 x3 : Nat) (w : World) (ht1 : 1 ≤ pb) (ht : Tabs w) (hr : Rdr w pb (c :: r))
  (hw : Cp.wd (c.toNat : Nat) = (x0,x1,x2,x3)) (hk : Cp.knownB (c.toNat : Nat) = true) (hlast : ¬ ((c.toNat : Int) = 5 ∧ room < 2)) (hx : txP x0 r = .ok (s,r1)) (h1 : x1 ≤ r1.length) (h2 : x2 ≤ (r1.drop x1).length) (h3 : ((r1.drop x1).drop x2).length < x3) :
  Calls Tryz.prog 214 #[.pointer (some ⟨pb,0,none⟩),.int .i64 room] w (EnPost pb (.error 30) w):=by
 unfold EnPost Bad
 dsimp only
 have hps:=hr.sz
 have hwn:=wd_n (c.toNat : Nat)
 have hwl:=wd_le (c.toNat : Nat)
 have HW0:=fun W (h : Tabs W)=>widthsOf_any c.toNat W h
 rw [hw] at HW0 hwn hwl
 rw [hk] at HW0
 dsimp only at HW0 hwn hwl
 have HW:=hid HW0
 have HN0:=hid (fun W (h : Below w.heap.size w W)=>number_ok pb 1 (c :: r) W (hr.below h hps) (by simp))
 rw [show (c :: r).take 1 = [c] from rfl,numI_one,show (c :: r).drop 1 = r from rfl] at HN0
 have HTx0:=fun W (h : Rdr W pb r)=>text_any pb x0 r W h hwl.1
 rw [hx] at HTx0
 unfold TxPost at HTx0
 dsimp only at HTx0
 have HTx:=hid HTx0
 have HTb:=hid (fun W (h : w.grownBy W (some pb))=>ht.grown h (fun k e=>by have:=Option.some.inj e;omega))
 obtain ⟨st,hst⟩ : ∃ st : ByteArray,st = ⟨s.toArray⟩:=⟨_,rfl⟩
 rw [← hst] at HTx
 have HN1:=hid (fun W (h : Rdr W pb r1)=>number_ok pb x1 r1 W h h1)
 obtain ⟨n1,hn1⟩ : ∃ z,z = Cp.numI (r1.take x1):=⟨_,rfl⟩
 obtain ⟨r2,hr2⟩ : ∃ l,l = r1.drop x1:=⟨_,rfl⟩
 rw [← hn1,← hr2] at HN1
 rw [← hr2] at h2
 have HS:=hid (fun W=>signed_any n1 x1 W hwn)
 obtain ⟨sn,hsn⟩ : ∃ z,z = sgn n1 x1:=⟨_,rfl⟩
 rw [← hsn] at HS
 have HN2:=hid (fun W (h : Rdr W pb r2)=>number_ok pb x2 r2 W h h2)
 obtain ⟨n2,hn2⟩ : ∃ z,z = Cp.numI (r2.take x2):=⟨_,rfl⟩
 rw [hr2.symm] at h3
 obtain ⟨r3,hr3⟩ : ∃ l,l = r2.drop x2:=⟨_,rfl⟩
 rw [← hn2,← hr3] at HN2
 rw [← hr3] at h3
 have HN3:=hid (fun W (h : Rdr W pb r3)=>number_bad pb x3 r3 W h h3 (by omega))
 have hc5' : ((c.toNat : Int) == 5) = false ∨ (((c.toNat : Int) == 5) = true ∧ decide (room < 2) = false):=by
  by_cases h5 : (c.toNat : Int) = 5
  ·exact .inr ⟨by simpa using h5,decide_eq_false (fun e=>hlast ⟨h5,e⟩)⟩
  ·exact .inl (by simpa using h5)
 unfold pan at HN3 ⊢
 clear HW0 HTx0 hw hk hlast hx hwn hwl ht hr hst h1 h2 h3 hn1 hr2 hsn hn2 hr3
 rcases hc5' with hc5|⟨hc5,hroom⟩
 ·go_enter Tryz.func214,Tryz.ntmps214
  go_wp2_with (first|(go_at_call 218;refine (HTx.out _ HSt.out.rd).mono ?_;rintro e w3 ⟨rfl,hs3⟩;have HSt3:=hid (HSt.out.stp hs3);have c51:=HSt3.out.b5.cell 1;have f51:=HSt3.out.b5.frozen 1;simp [cC] at c51)|(go_at_call 144;refine (HW.out _ (HTb.out _ ?_)).mono ?_;exact grown_trans (grown_trans (grown_of_below ((Below.refl _ w).alloc (Nat.le_refl _) _) _) hs1.1) (grown_of_below ((Below.refl _ w1).alloc (Nat.le_refl _) _) _);rintro e w2 ⟨rfl,hb2⟩;have HSt:=hid (EnSt.new (x:=#[.int .i64 x0,.int .i64 x1,.int .i64 x2,.int .i64 x3]) hps hs1 hb2);have c50:=hb2.cell (p:=⟨w1.heap.size,0,none⟩) (by simp);simp [go_sem] at c50;have zz:=hb2.size;simp only [World.size_alloc] at zz;have zz1 : w1.heap.size < w2.heap.size:=(by omega);have zw:=hs1.1.size;simp only [World.size_alloc] at zw;have zw1 : ¬ w.heap.size = w1.heap.size:=(by omega);have zw2 : ¬ w1.heap.size = w2.heap.size:=(by omega);have zw3 : ¬ w.heap.size = w2.heap.size:=(by omega);clear zz zw)|(go_at_call 213;refine (HN0.out _ BLw).mono ?_;rintro e w1 ⟨rfl,hs1⟩))
  have HSt4:=hid (HSt3.out.set 1 (.string st) ⟨c.toNat,st,0,0,0⟩ rfl)
  obtain ⟨W,hW⟩ : ∃ W,W = w3.setCell ⟨w1.heap.size,1,none⟩ (.string st):=⟨_,rfl⟩
  rw [← hW] at HSt4 ⊢
  have y1:=HSt4.out.b6.cell 1
  have z2:=HSt4.out.b5.cell 2
  have f2:=HSt4.out.b5.frozen 2
  have hWs:=HSt4.out.b5.sz
  have hWt:=HSt4.out.b6.sz
  simp [cC] at y1 z2
  clear hW c50 c51 f51 hs1 hb2 hs3
  go_region_law (first|(have _g:=hs4;refine Kit.step_call2 rfl 202 (.tmp 37) (.tmp 39) 2 3 rfl _ _ rfl rfl (cf_signed _ _ _) _ (HS.out _) ?_;rintro e w5 ⟨rfl,rfl⟩;refine ⟨_,rfl,?_⟩)|(refine Kit.step_call2 rfl 213 (.tmp 34) (.tmp 36) 229 3 rfl _ _ rfl rfl (cf_number _ _ _) _ (HN1.out _ ?_) ?_;(first|with_reducible exact HSt4.out.rd|with_reducible exact HSt4.out.drew.rd);rintro e w4 ⟨rfl,hs4⟩;refine ⟨_,rfl,?_⟩;have HSt5:=hid (HSt4.out.drew.stp hs4);have y1:=HSt5.out.b6.cell 1;have y2:=HSt5.out.b6.cell 2;have z2:=HSt5.out.b5.cell 2;have z3:=HSt5.out.b5.cell 3;have f2:=HSt5.out.b5.frozen 2;have f3:=HSt5.out.b5.frozen 3;have hWs:=HSt5.out.b5.sz;have hWt:=HSt5.out.b6.sz;simp [cC] at y1 y2 z2 z3))
  all_goals
   have HSt6:=hid (HSt5.out.set 2 (.int .i64 sn) ⟨c.toNat,st,sn,0,0⟩ rfl)
   go_wp2_with (first|(go_at_call 213;have _g:=HSt8;(with_reducible refine (HN3.out _ HSt8.out.rd).mono ?_);rintro e w6 ⟨rfl,rfl⟩)|(go_at_call 213;(with_reducible refine (HN2.out _ HSt6.out.rd).mono ?_);rintro e w5 ⟨rfl,hs5⟩;have HSt7:=hid (HSt6.out.stp hs5);have HSt8:=hid (HSt7.out.set 3 (.int .i64 n2) ⟨c.toNat,st,sn,n2,0⟩ rfl);have y3:=HSt7.out.b6.cell 3;have z3:=HSt7.out.b5.cell 3;have z4:=HSt7.out.b5.cell 4;have f3:=HSt7.out.b5.frozen 3;have f4:=HSt7.out.b5.frozen 4;simp [cC] at y3 z3 z4))
   exact ⟨rfl,rfl,HSt8.out.gr⟩
 ·go_enter Tryz.func214,Tryz.ntmps214
  go_wp2_with (first|(go_at_call 218;refine (HTx.out _ HSt.out.rd).mono ?_;rintro e w3 ⟨rfl,hs3⟩;have HSt3:=hid (HSt.out.stp hs3);have c51:=HSt3.out.b5.cell 1;have f51:=HSt3.out.b5.frozen 1;simp [cC] at c51)|(go_at_call 144;refine (HW.out _ (HTb.out _ ?_)).mono ?_;exact grown_trans (grown_trans (grown_of_below ((Below.refl _ w).alloc (Nat.le_refl _) _) _) hs1.1) (grown_of_below ((Below.refl _ w1).alloc (Nat.le_refl _) _) _);rintro e w2 ⟨rfl,hb2⟩;have HSt:=hid (EnSt.new (x:=#[.int .i64 x0,.int .i64 x1,.int .i64 x2,.int .i64 x3]) hps hs1 hb2);have c50:=hb2.cell (p:=⟨w1.heap.size,0,none⟩) (by simp);simp [go_sem] at c50;have zz:=hb2.size;simp only [World.size_alloc] at zz;have zz1 : w1.heap.size < w2.heap.size:=(by omega);have zw:=hs1.1.size;simp only [World.size_alloc] at zw;have zw1 : ¬ w.heap.size = w1.heap.size:=(by omega);have zw2 : ¬ w1.heap.size = w2.heap.size:=(by omega);have zw3 : ¬ w.heap.size = w2.heap.size:=(by omega);clear zz zw)|(go_at_call 213;refine (HN0.out _ BLw).mono ?_;rintro e w1 ⟨rfl,hs1⟩))
  have HSt4:=hid (HSt3.out.set 1 (.string st) ⟨c.toNat,st,0,0,0⟩ rfl)
  obtain ⟨W,hW⟩ : ∃ W,W = w3.setCell ⟨w1.heap.size,1,none⟩ (.string st):=⟨_,rfl⟩
  rw [← hW] at HSt4 ⊢
  have y1:=HSt4.out.b6.cell 1
  have z2:=HSt4.out.b5.cell 2
  have f2:=HSt4.out.b5.frozen 2
  have hWs:=HSt4.out.b5.sz
  have hWt:=HSt4.out.b6.sz
  simp [cC] at y1 z2
  clear hW c50 c51 f51 hs1 hb2 hs3
  go_region_law (first|(have _g:=hs4;refine Kit.step_call2 rfl 202 (.tmp 37) (.tmp 39) 2 3 rfl _ _ rfl rfl (cf_signed _ _ _) _ (HS.out _) ?_;rintro e w5 ⟨rfl,rfl⟩;refine ⟨_,rfl,?_⟩)|(refine Kit.step_call2 rfl 213 (.tmp 34) (.tmp 36) 229 3 rfl _ _ rfl rfl (cf_number _ _ _) _ (HN1.out _ ?_) ?_;(first|with_reducible exact HSt4.out.rd|with_reducible exact HSt4.out.drew.rd);rintro e w4 ⟨rfl,hs4⟩;refine ⟨_,rfl,?_⟩;have HSt5:=hid (HSt4.out.drew.stp hs4);have y1:=HSt5.out.b6.cell 1;have y2:=HSt5.out.b6.cell 2;have z2:=HSt5.out.b5.cell 2;have z3:=HSt5.out.b5.cell 3;have f2:=HSt5.out.b5.frozen 2;have f3:=HSt5.out.b5.frozen 3;have hWs:=HSt5.out.b5.sz;have hWt:=HSt5.out.b6.sz;simp [cC] at y1 y2 z2 z3))
  all_goals
   have HSt6:=hid (HSt5.out.set 2 (.int .i64 sn) ⟨c.toNat,st,sn,0,0⟩ rfl)
   go_wp2_with (first|(go_at_call 213;have _g:=HSt8;(with_reducible refine (HN3.out _ HSt8.out.rd).mono ?_);rintro e w6 ⟨rfl,rfl⟩)|(go_at_call 213;(with_reducible refine (HN2.out _ HSt6.out.rd).mono ?_);rintro e w5 ⟨rfl,hs5⟩;have HSt7:=hid (HSt6.out.stp hs5);have HSt8:=hid (HSt7.out.set 3 (.int .i64 n2) ⟨c.toNat,st,sn,n2,0⟩ rfl);have y3:=HSt7.out.b6.cell 3;have z3:=HSt7.out.b5.cell 3;have z4:=HSt7.out.b5.cell 4;have f3:=HSt7.out.b5.frozen 3;have f4:=HSt7.out.b5.frozen 4;simp [cC] at y3 z3 z4))
   exact ⟨rfl,rfl,HSt8.out.gr⟩
set_option maxHeartbeats 400000 in
theorem entry_nil (pb : Nat) (room : Int) (w : World) (hr : Rdr w pb []) :
  Calls Tryz.prog 214 #[.pointer (some ⟨pb,0,none⟩),.int .i64 room] w (EnPost pb (.error 30) w):=by
 unfold EnPost Bad
 dsimp only
 have hps:=hr.sz
 have HN0:=hid (fun W (h : Below w.heap.size w W)=>number_bad pb 1 [] W (hr.below h hps) (by simp) (by omega))
 unfold pan at HN0 ⊢
 clear hr
 go_enter Tryz.func214,Tryz.ntmps214
 go_wp2_with (go_at_call 213;refine (HN0.out _ BLw).mono ?_;rintro e w1 ⟨rfl,rfl⟩)
 exact ⟨rfl,rfl,grown_of_below BLw _⟩
set_option maxHeartbeats 400000 in
theorem entry_tag (pb : Nat) (room : Int) (c : UInt8) (r : List UInt8) (x0 x1 x2 x3 : Nat) (w : World) (ht1 : 1 ≤ pb) (ht : Tabs w) (hr : Rdr w pb (c :: r))
  (hw : Cp.wd (c.toNat : Nat) = (x0,x1,x2,x3)) (hk : Cp.knownB (c.toNat : Nat) = false ∨ ((c.toNat : Int) = 5 ∧ room < 2)) :
  Calls Tryz.prog 214 #[.pointer (some ⟨pb,0,none⟩),.int .i64 room] w (EnPost pb (.error 31) w):=by
 unfold EnPost Bad
 dsimp only
 have hps:=hr.sz
 have HW0:=fun W (h : Tabs W)=>widthsOf_any c.toNat W h
 rw [hw] at HW0
 dsimp only at HW0
 have HN0:=hid (fun W (h : Below w.heap.size w W)=>number_ok pb 1 (c :: r) W (hr.below h hps) (by simp))
 rw [show (c :: r).take 1 = [c] from rfl,numI_one,show (c :: r).drop 1 = r from rfl] at HN0
 have HTb:=hid (fun W (h : w.grownBy W (some pb))=>ht.grown h (fun k e=>by have:=Option.some.inj e;omega))
 unfold pan
 cases hkk : Cp.knownB (c.toNat : Nat) with
 | false =>
  rw [hkk] at HW0
  have HW:=hid HW0
  clear HW0 hw hk ht hr hkk
  go_enter Tryz.func214,Tryz.ntmps214
  go_wp2_with (first|(go_at_call 144;refine (HW.out _ (HTb.out _ ?_)).mono ?_;exact grown_trans (grown_trans (grown_of_below ((Below.refl _ w).alloc (Nat.le_refl _) _) _) hs1.1) (grown_of_below ((Below.refl _ w1).alloc (Nat.le_refl _) _) _);rintro e w2 ⟨rfl,hb2⟩;have HSt:=hid (EnSt.new (x:=#[.int .i64 x0,.int .i64 x1,.int .i64 x2,.int .i64 x3]) hps hs1 hb2);have c50:=hb2.cell (p:=⟨w1.heap.size,0,none⟩) (by simp);simp [go_sem] at c50;have zz:=hb2.size;simp only [World.size_alloc] at zz;have zz1 : w1.heap.size < w2.heap.size:=(by omega);have zw:=hs1.1.size;simp only [World.size_alloc] at zw;have zw1 : ¬ w.heap.size = w1.heap.size:=(by omega);have zw2 : ¬ w1.heap.size = w2.heap.size:=(by omega);have zw3 : ¬ w.heap.size = w2.heap.size:=(by omega);clear zz zw)|(go_at_call 213;refine (HN0.out _ BLw).mono ?_;rintro e w1 ⟨rfl,hs1⟩))
  exact ⟨rfl,rfl,HSt.out.gr⟩
 | true =>
  rw [hkk] at HW0
  have HW:=hid HW0
  obtain ⟨h5,hrm⟩:=hk.resolve_left (by rw [hkk];simp)
  have hc5 : ((c.toNat : Int) == 5) = true:=by simpa using h5
  have hroom : decide (room < 2) = true:=by simpa using hrm
  clear HW0 hw hk ht hr hkk h5 hrm
  go_enter Tryz.func214,Tryz.ntmps214
  go_wp2_with (first|(go_at_call 144;refine (HW.out _ (HTb.out _ ?_)).mono ?_;exact grown_trans (grown_trans (grown_of_below ((Below.refl _ w).alloc (Nat.le_refl _) _) _) hs1.1) (grown_of_below ((Below.refl _ w1).alloc (Nat.le_refl _) _) _);rintro e w2 ⟨rfl,hb2⟩;have HSt:=hid (EnSt.new (x:=#[.int .i64 x0,.int .i64 x1,.int .i64 x2,.int .i64 x3]) hps hs1 hb2);have c50:=hb2.cell (p:=⟨w1.heap.size,0,none⟩) (by simp);simp [go_sem] at c50;have zz:=hb2.size;simp only [World.size_alloc] at zz;have zz1 : w1.heap.size < w2.heap.size:=(by omega);have zw:=hs1.1.size;simp only [World.size_alloc] at zw;have zw1 : ¬ w.heap.size = w1.heap.size:=(by omega);have zw2 : ¬ w1.heap.size = w2.heap.size:=(by omega);have zw3 : ¬ w.heap.size = w2.heap.size:=(by omega);clear zz zw)|(go_at_call 213;refine (HN0.out _ BLw).mono ?_;rintro e w1 ⟨rfl,hs1⟩))
  exact ⟨rfl,rfl,HSt.out.gr⟩
end Go.Proofs.YtnojgiflgmnjlaaGreatDoor.L3
namespace Go.Proofs.YtnojgiflgmnjlaaGreatDoor.L3
open Go.RowKit
theorem entry_any (pb : Nat) (room : Int) (bs : List UInt8) (w : World) (hp : 1 ≤ pb) (ht : Tabs w) (hr : Rdr w pb bs) :
  Calls Tryz.prog 214 #[.pointer (some ⟨pb,0,none⟩),.int .i64 room] w (EnPost pb (enP room bs) w):=by
 cases bs with
 | nil=>exact entry_nil pb room w hr
 | cons c r =>
  unfold enP
  dsimp only
  obtain ⟨⟨x0,x1,x2,x3⟩,hw⟩ : ∃ x,x = Cp.wd (c.toNat : Nat):=⟨_,rfl⟩
  by_cases hbad : Cp.knownB (c.toNat : Int) = false ∨ ((c.toNat : Int) = 5 ∧ room < 2)
  ·rw [if_pos hbad]
   exact entry_tag pb room c r x0 x1 x2 x3 w hp ht hr hw.symm hbad
  ·rw [if_neg hbad]
   have hk : Cp.knownB (c.toNat : Nat) = true:=by
    cases h : Cp.knownB (c.toNat : Int) with
    | true=>rfl
    | false=>exact absurd (.inl h) hbad
   have hlast : ¬ ((c.toNat : Int) = 5 ∧ room < 2):=fun e=>hbad (.inr e)
   rw [← hw]
   dsimp only
   cases hx : txP x0 r with
   | error er=>exact entry_text pb room c r er x0 x1 x2 x3 w hp ht hr hw.symm hk hlast hx
   | ok y =>
    obtain ⟨s,r1⟩:=y
    dsimp only
    by_cases h1 : r1.length < x1
    ·rw [if_pos h1]
     exact entry_n pb room c r r1 s x0 x1 x2 x3 w hp ht hr hw.symm hk hlast hx h1
    ·rw [if_neg h1]
     by_cases h2 : (r1.drop x1).length < x2
     ·rw [if_pos h2]
      exact entry_a pb room c r r1 s x0 x1 x2 x3 w hp ht hr hw.symm hk hlast hx (by omega) h2
     ·rw [if_neg h2]
      by_cases h3 : ((r1.drop x1).drop x2).length < x3
      ·rw [if_pos h3]
       exact entry_b pb room c r r1 s x0 x1 x2 x3 w hp ht hr hw.symm hk hlast hx (by omega) (by omega) h3
      ·rw [if_neg h3]
       exact entry_ok pb room c r r1 s x0 x1 x2 x3 w hp ht hr hw.symm hk hlast hx (by omega) (by omega) (by omega)
def cL (c : Cp.C) : List Value:=[.int .i64 c.t,.string c.s,.int .i64 c.n,.int .i64 c.a,.int .i64 c.b]
theorem cL_len (c : Cp.C) : (cL c).length = 5:=rfl
def OwnC (w : World) (base : Nat) (v : Value) (l : List Cp.C) : Prop:=w.ownsRow base 56 5 v l.length (l.flatMap cL)
theorem nilC (w : World) (base : Nat) : OwnC w base (.slice none 0 0) []:=⟨rfl,.inl ⟨rfl,rfl⟩⟩
theorem OwnC.snoc {w : World} {base : Nat} {v : Value} {l : List Cp.C} {c : Cp.C} (h : w.ownsRow base 56 5 v (l.length + 1) (l.flatMap cL ++ cL c)) : OwnC w base v (l ++ [c]):=by
 unfold OwnC
 rw [List.length_append,List.flatMap_append]
 simpa using h
theorem infoC : (Tryz.prog.info? 56).map (fun i=>(i.zero,i.size,i.bytes)) = some (some (.agg #[.int .i64 0,.string ⟨#[]⟩,.int .i64 0,.int .i64 0,.int .i64 0]),5,48):=by kernel_rfl
theorem news_c (w : World) (c : Cp.C) : ∀ j u,(cL c)[j]? = some u → (w.alloc (.cells #[.int .i64 c.t,.string c.s,.int .i64 c.n,.int .i64 c.a,.int .i64 c.b] 56)).cell? ((⟨w.heap.size,0,none⟩ : Addr).add j) = some u:=by
 intro j u hj
 match j,hj with
 | 0,hj=>simp [cL] at hj;subst hj;simp [Addr.add,go_sem]
 | 1,hj=>simp [cL] at hj;subst hj;simp [Addr.add,go_sem]
 | 2,hj=>simp [cL] at hj;subst hj;simp [Addr.add,go_sem]
 | 3,hj=>simp [cL] at hj;subst hj;simp [Addr.add,go_sem]
 | 4,hj=>simp [cL] at hj;subst hj;simp [Addr.add,go_sem]
theorem ones_c (c : Cp.C) : ∀ u ∈ cL c,u.oneCell' = true:=by
 intro u hu;simp [cL] at hu;rcases hu with rfl|rfl|rfl|rfl|rfl <;> rfl
def appE (l : List Cp.C) (c : Cp.C) : List Cp.C:=if c.t = 5 then l ++ [c] ++ [Cp.C0] else l ++ [c]
set_option maxHeartbeats 400000 in
theorem appendEntry_any (base : Nat) (l : List Cp.C) (v : Value) (c : Cp.C) (w : World) (ho : OwnC w base v l) (hb : base ≤ w.heap.size) (hl : l.length ≤ 10000) :
  Calls Tryz.prog 187 #[v,.agg (cC c)] w fun e w'=>∃ v',e = .returned v' ∧ OwnC w' base v' (appE l c) ∧ Kit.Grows w w' v v':=by
 have HO:=hid ho
 obtain ⟨i0,hi,hz0,hz1,hz2⟩:=info_parts infoC
 have hlt:=hid (Kit.own_lt ho)
 unfold cC appE
 clear ho
 by_cases h5 : c.t = 5
 ·rw [if_pos h5]
  have hd : (c.t == 5) = true:=by simpa using h5
  clear h5
  go_enter Tryz.func187,Tryz.ntmps187
  go_wp2_with (first|(at_builtin;have _g:=ho1;refine wpList_append_own_at _ rfl (.tmp 12) (.tmp 14) 23 rfl base 56 i0 _ 5 48 Tryz.underlying23 hi hz0 hz1 hz2 rfl (by decide) v1 _ _ rfl (World.ownsRow.alloc ho1 _) ⟨w1.heap.size,0,none⟩ 1 1 (cL Cp.C0) rfl rfl (news_c w1 Cp.C0) (ones_c _) (by unfold maxLen;rw [List.length_append];simp only [List.length_cons,List.length_nil];omega) (by rw [List.length_append];simp only [List.length_cons,List.length_nil];omega) (by simp only [World.size_alloc];omega) ?_;intro v2 w2 ho2' hg2 _ hk2;have ho2:=OwnC.snoc ho2';have G2:=Kit.grows_append ((Below.refl w1.heap.size w1).alloc (Nat.le_refl _) (.cells #[.int .i64 0,.string ⟨#[]⟩,.int .i64 0,.int .i64 0,.int .i64 0] 56)) hg2 hk2)|(at_builtin;refine wpList_append_own_at _ rfl (.tmp 5) (.tmp 7) 23 rfl base 56 i0 _ 5 48 Tryz.underlying23 hi hz0 hz1 hz2 rfl (by decide) _ _ _ rfl (World.ownsRow.alloc (World.ownsRow.alloc HO.out _) _) ⟨w.heap.size + 1,0,none⟩ 1 1 (cL c) rfl rfl (by (have hn:=news_c (w.alloc (.cells #[.int .i64 c.t,.string c.s,.int .i64 c.n,.int .i64 c.a,.int .i64 c.b] 56)) c);rw [World.size_alloc] at hn;exact hn) (ones_c _) (by unfold maxLen;omega) (by omega) (by simp only [World.size_alloc];omega) ?_;intro v1 w1 ho1' hg1 _ hk1;have ho1:=OwnC.snoc ho1';have G1:=Kit.grows_append (((Below.refl w.heap.size w).alloc (Nat.le_refl _) (.cells #[.int .i64 c.t,.string c.s,.int .i64 c.n,.int .i64 c.a,.int .i64 c.b] 56)).alloc (by simp only [World.size_alloc];omega) (.cells #[.int .i64 c.t,.string c.s,.int .i64 c.n,.int .i64 c.a,.int .i64 c.b] 56)) hg1 hk1;have hbx:=((BX.new w #[.int .i64 c.t,.string c.s,.int .i64 c.n,.int .i64 c.a,.int .i64 c.b] 56).below ((Below.refl _ _).alloc (Nat.le_refl _) (.cells #[.int .i64 c.t,.string c.s,.int .i64 c.n,.int .i64 c.a,.int .i64 c.b] 56)) (by simp only [World.size_alloc];omega)).grown hg1 (fun e=>by (have:=hlt.out _ e);omega);have c0:=hbx.cell 0;simp at c0;have hz3:=G1.size;clear ho1'))
  go_ret
  exact ⟨_,rfl,ho2,G1.trans G2⟩
 ·rw [if_neg h5]
  have hd : (c.t == 5) = false:=by simpa using h5
  clear h5
  go_enter Tryz.func187,Tryz.ntmps187
  go_wp2_with (first|(at_builtin;have _g:=ho1;refine wpList_append_own_at _ rfl (.tmp 12) (.tmp 14) 23 rfl base 56 i0 _ 5 48 Tryz.underlying23 hi hz0 hz1 hz2 rfl (by decide) v1 _ _ rfl (World.ownsRow.alloc ho1 _) ⟨w1.heap.size,0,none⟩ 1 1 (cL Cp.C0) rfl rfl (news_c w1 Cp.C0) (ones_c _) (by unfold maxLen;rw [List.length_append];simp only [List.length_cons,List.length_nil];omega) (by rw [List.length_append];simp only [List.length_cons,List.length_nil];omega) (by simp only [World.size_alloc];omega) ?_;intro v2 w2 ho2' hg2 _ hk2;have ho2:=OwnC.snoc ho2';have G2:=Kit.grows_append ((Below.refl w1.heap.size w1).alloc (Nat.le_refl _) (.cells #[.int .i64 0,.string ⟨#[]⟩,.int .i64 0,.int .i64 0,.int .i64 0] 56)) hg2 hk2)|(at_builtin;refine wpList_append_own_at _ rfl (.tmp 5) (.tmp 7) 23 rfl base 56 i0 _ 5 48 Tryz.underlying23 hi hz0 hz1 hz2 rfl (by decide) _ _ _ rfl (World.ownsRow.alloc (World.ownsRow.alloc HO.out _) _) ⟨w.heap.size + 1,0,none⟩ 1 1 (cL c) rfl rfl (by (have hn:=news_c (w.alloc (.cells #[.int .i64 c.t,.string c.s,.int .i64 c.n,.int .i64 c.a,.int .i64 c.b] 56)) c);rw [World.size_alloc] at hn;exact hn) (ones_c _) (by unfold maxLen;omega) (by omega) (by simp only [World.size_alloc];omega) ?_;intro v1 w1 ho1' hg1 _ hk1;have ho1:=OwnC.snoc ho1';have G1:=Kit.grows_append (((Below.refl w.heap.size w).alloc (Nat.le_refl _) (.cells #[.int .i64 c.t,.string c.s,.int .i64 c.n,.int .i64 c.a,.int .i64 c.b] 56)).alloc (by simp only [World.size_alloc];omega) (.cells #[.int .i64 c.t,.string c.s,.int .i64 c.n,.int .i64 c.a,.int .i64 c.b] 56)) hg1 hk1;have hbx:=((BX.new w #[.int .i64 c.t,.string c.s,.int .i64 c.n,.int .i64 c.a,.int .i64 c.b] 56).below ((Below.refl _ _).alloc (Nat.le_refl _) (.cells #[.int .i64 c.t,.string c.s,.int .i64 c.n,.int .i64 c.a,.int .i64 c.b] 56)) (by simp only [World.size_alloc];omega)).grown hg1 (fun e=>by (have:=hlt.out _ e);omega);have c0:=hbx.cell 0;simp at c0;have hz3:=G1.size;clear ho1'))
  go_ret
  exact ⟨_,rfl,ho1,G1⟩
end Go.Proofs.YtnojgiflgmnjlaaGreatDoor.L3
namespace Go.Proofs.YtnojgiflgmnjlaaGreatDoor.L3
open Go.RowKit
def plGo : Nat → Nat → List Cp.C → List UInt8 → Except Int (List Cp.C × List UInt8)
 | 0,_,l,r=>.ok (l,r)
 | f + 1,n,l,r=>if l.length < n then match enP ((n : Int) - (l.length : Int)) r with
   | .error e=>.error e
   | .ok (c,r')=>plGo f n (appE l c) r'
  else .ok (l,r)
def plP (bs : List UInt8) : Except Int (List Cp.C × List UInt8) :=
 if bs.length < 2 then .error 30
 else if 4096 < Cp.numI (bs.take 2) then .error 3
 else if Cp.numI (bs.take 2) = 0 then .ok ([],bs.drop 2)
 else plGo (Cp.numI (bs.take 2)).toNat (Cp.numI (bs.take 2)).toNat [Cp.C0] (bs.drop 2)
def PlPost (pb : Nat) (x : Except Int (List Cp.C × List UInt8)) (w : World) (e : Ending) (w' : World) : Prop:=match x with
 | .error er=>Bad pb er w e w'
 | .ok (l,r)=>∃ v,e = .returned v ∧ OwnC w' w.heap.size v l ∧ Stp pb r w w'
def lenV : Value → Nat
 | .slice _ n _=>n
 | _=>0
theorem own_form {w : World} {base : Nat} {e : TypeId} {size : Nat} {v : Value} {n : Nat} {xs : List Value} (h : w.ownsRow base e size v n xs) : ∃ a cap,v = .slice a n cap:=by
 rcases h.2 with ⟨rfl,rfl⟩|⟨g,cap,cur,rfl,-⟩
 ·exact ⟨none,0,rfl⟩
 ·exact ⟨_,cap,rfl⟩
theorem appE_len (l : List Cp.C) (c : Cp.C) : l.length + 1 ≤ (appE l c).length ∧ (appE l c).length ≤ l.length + 2:=by
 unfold appE
 split <;> simp
theorem own_newC (w : World) (base : Nat) (hb : base ≤ w.heap.size) : OwnC (w.alloc (.cells #[.int .i64 0,.string ⟨#[]⟩,.int .i64 0,.int .i64 0,.int .i64 0] 56)) base (.slice (some ⟨w.heap.size,0,none⟩) 1 1) [Cp.C0] :=
 ⟨rfl,.inr ⟨w.heap.size,1,#[.int .i64 0,.string ⟨#[]⟩,.int .i64 0,.int .i64 0,.int .i64 0],rfl,hb,BX.new _ _ _,Nat.le_refl _,by unfold maxLen;omega,rfl,rfl⟩⟩
set_option maxHeartbeats 400000 in
theorem pool_loop (pb n : Nat) (bs : List UInt8) (w : World) (hp : 1 ≤ pb) (ht : Tabs w) (hr : Rdr w pb bs) (h2 : 2 ≤ bs.length) (hn : Cp.numI (bs.take 2) = n) (hn1 : 1 ≤ n) (hn2 : n ≤ 4096) :
  Calls Tryz.prog 201 #[.pointer (some ⟨pb,0,none⟩)] w (PlPost pb (plGo n n [Cp.C0] (bs.drop 2)) w):=by
 have hps:=hr.sz
 have HN0:=number_ok pb 2 bs w hr h2
 rw [hn] at HN0
 have HN:=hid HN0
 have HTb:=hid (fun W (h : w.grownBy W (some pb))=>ht.grown h (fun k e=>by have:=Option.some.inj e;omega))
 have hd1 : decide (4096 < (n : Int)) = false:=by simp;omega
 have hd2 : ((n : Int) == 0) = false:=by rw [beq_eq_false_iff_ne];omega
 obtain ⟨x,hx⟩ : ∃ x,x = plGo n n [Cp.C0] (bs.drop 2):=⟨_,rfl⟩
 rw [← hx]
 have HX:=hid hx
 clear HN0 hn hr h2 ht hx
 go_enter Tryz.func201,Tryz.ntmps201
 go_wp2_with (go_at_call 213;refine HN.out.mono ?_;rintro e w1 ⟨rfl,hs1⟩;have hz1:=hs1.1.size;have HS1:=hid hs1;clear hs1)
 go_loopw [4] (fun v wr=>∃ (xs : List Cp.C) (r : List UInt8) (f : Nat),OwnC wr w.heap.size v xs ∧ Stp pb r w wr ∧ n - xs.length < f ∧ xs.length ≤ n + 1 ∧ Hid (x = plGo f n xs r)) (fun v _=>n - lenV v)
 case atStart =>
  refine ⟨[Cp.C0],bs.drop 2,n,own_newC w1 w.heap.size hz1,⟨grown_trans HS1.out.1 (grown_of_below ((Below.refl _ _).alloc (Nat.le_refl _) _) _),HS1.out.2.below ((Below.refl _ _).alloc (Nat.le_refl _) _) (by omega)⟩,?_,?_,HX.out⟩
  ·rw [List.length_singleton];omega
  ·rw [List.length_singleton];omega
 case round =>
  obtain ⟨xs,r,f,hown,hst,hf,hxl,hxe⟩:=hrel
  obtain ⟨f,rfl⟩ : ∃ f',f = f' + 1:=⟨f - 1,by omega⟩
  obtain ⟨sa,sc,rfl⟩:=own_form hown
  by_cases hlt : xs.length < n
  ·have hlti : (xs.length : Int) < (n : Int):=by omega
   have hroom : IntKind.i64.wrap ((n : Int) - (xs.length : Int)) = (n : Int) - (xs.length : Int):=IntWalk.i64_in _ (by omega)
   have HE0:=fun W (h : w.grownBy W (some pb)) (hR : Rdr W pb r)=>entry_any pb ((n : Int) - (xs.length : Int)) r W hp (HTb.out W h) hR
   have hxe1:=hxe.out
   unfold plGo at hxe1
   rw [if_pos hlt] at hxe1
   unfold EnPost at HE0
   cases he : enP ((n : Int) - (xs.length : Int)) r with
   | error er =>
    rw [he] at HE0 hxe1
    dsimp only at HE0 hxe1
    unfold Bad pan at HE0
    have HE:=hid HE0
    have HXE:=hid hxe1
    have HST:=hid hst
    have HZ:=hst.1.size
    clear HE0 hxe1 he hst
    go_wp2_with (go_at_call 214;refine (HE.out _ HST.out.1 HST.out.2).mono ?_;rintro e w2 ⟨rfl,hg2⟩)
    exact ⟨rfl,by rw [HXE.out];exact ⟨rfl,grown_trans HST.out.1 hg2⟩⟩
   | ok y =>
    obtain ⟨c,r'⟩:=y
    rw [he] at HE0 hxe1
    dsimp only at HE0 hxe1
    have HE:=hid HE0
    have HXE:=hid hxe1
    have HST:=hid hst
    have HZ:=hst.1.size
    have HO:=hid hown
    clear HE0 hxe1 he hst hown
    go_wp2_with (first
     | (go_at_call 187;have _g:=hs2;refine (appendEntry_any w.heap.size xs _ c _ (Kit.owns_grown HO.out hs2.1 hps) (by omega) (by omega)).mono ?_;rintro e w3 ⟨v3,rfl,ho3,hG3⟩)
     | (go_at_call 214;refine (HE.out _ HST.out.1 HST.out.2).mono ?_;rintro e w2 ⟨rfl,hs2⟩;have hz2:=hs2.1.size))
    obtain ⟨sb,scb,rfl⟩:=own_form ho3
    have hal:=appE_len xs c
    have hbase : ∀ k,(Value.slice sa xs.length sc).ownBlock = some k → w.heap.size ≤ k:=Kit.own_base HO.out
    go_roundw
    case rel=>exact ⟨appE xs c,r',f,ho3,⟨Kit.grown_own (grown_trans HST.out.1 hs2.1) hG3.grown hbase,hs2.2.grown hG3.grown (fun k e=>by have:=hbase k e;omega)⟩,by omega,by omega,HXE.out⟩
    case measure=>show n - (appE xs c).length < n - xs.length;omega
  ·have hxe1:=hxe.out
   unfold plGo at hxe1
   rw [if_neg hlt] at hxe1
   have HXE:=hid hxe1
   have hge : decide ((xs.length : Int) < (n : Int)) = false:=by simp;omega
   have HST:=hid hst
   have HO:=hid hown
   clear hxe1 hst hown
   go_wp2
   go_ret
   rw [HXE.out]
   exact ⟨_,rfl,HO.out,HST.out⟩
set_option maxHeartbeats 400000 in
theorem pool_any (pb : Nat) (bs : List UInt8) (w : World) (hp : 1 ≤ pb) (ht : Tabs w) (hr : Rdr w pb bs) :
  Calls Tryz.prog 201 #[.pointer (some ⟨pb,0,none⟩)] w (PlPost pb (plP bs) w):=by
 unfold plP
 by_cases h2 : bs.length < 2
 ·rw [if_pos h2]
  unfold PlPost Bad
  have HN:=hid (number_bad pb 2 bs w hr h2 (by omega))
  unfold pan at HN ⊢
  clear hr ht h2
  go_enter Tryz.func201,Tryz.ntmps201
  go_wp2_with (go_at_call 213;refine HN.out.mono ?_;rintro e w1 ⟨rfl,rfl⟩)
  exact ⟨rfl,rfl,grown_refl _ _⟩
 ·rw [if_neg h2]
  have HN0:=number_ok pb 2 bs w hr (by omega)
  obtain ⟨hr0,hr1⟩:=numI_2 (l:=bs.take 2) (by rw [List.length_take];omega)
  obtain ⟨n,hn⟩ : ∃ n,n = Cp.numI (bs.take 2):=⟨_,rfl⟩
  rw [← hn] at HN0 hr0 hr1 ⊢
  by_cases hb : 4096 < n
  ·rw [if_pos hb]
   unfold PlPost Bad
   have HN:=hid HN0
   have hd : decide (4096 < n) = true:=by simpa using hb
   unfold pan
   clear HN0 hr ht h2 hn hb
   go_enter Tryz.func201,Tryz.ntmps201
   go_wp2_with (go_at_call 213;refine HN.out.mono ?_;rintro e w1 ⟨rfl,hs1⟩)
   exact ⟨rfl,rfl,hs1.1⟩
  ·rw [if_neg hb]
   by_cases h0 : n = 0
   ·rw [if_pos h0]
    subst h0
    unfold PlPost
    have HN:=hid HN0
    clear HN0 hr ht h2 hn hb
    go_enter Tryz.func201,Tryz.ntmps201
    go_wp2_with (go_at_call 213;refine HN.out.mono ?_;rintro e w1 ⟨rfl,hs1⟩)
    go_ret
    exact ⟨_,rfl,nilC _ _,hs1⟩
   ·rw [if_neg h0]
    obtain ⟨m,rfl⟩:=Int.eq_ofNat_of_zero_le hr0
    rw [show ((m : Int)).toNat = m by omega]
    exact pool_loop pb m bs w hp ht hr (by omega) hn.symm (by omega) (by omega)
end Go.Proofs.YtnojgiflgmnjlaaGreatDoor.L3
namespace Go.Proofs.YtnojgiflgmnjlaaGreatDoor.L3
open Go.RowKit
theorem A.asOk (er : Int) (w : World) : (Instr.typeAssert (.iface 27 (.int .i64 er)) 20 27 true).run Tryz.prog w = .ok (.tuple #[.int .i64 er,.bool true]) w:=by kernel_rfl
theorem A.asNil (w : World) : (Instr.typeAssert .nilIface 20 27 true).run Tryz.prog w = .ok (.tuple #[.int .i64 0,.bool false]) w:=by kernel_rfl
theorem A.neNone (w : World) : (binOp .neq 20 .nilIface .nilIface).run Tryz.prog w = .ok (.bool false) w:=by kernel_rfl
theorem rep14 : Array.replicate 14 undef = #[undef,undef,undef,undef,undef,undef,undef,undef,undef,undef,undef,undef,undef,undef]:=rfl
theorem catch_panicking (p : Addr) (x : Value) (er : Int) (older : List PanicEntry) (w : World) (hc : w.cell? p = some x) (hz : w.frozen? p = false) :
  CallsD Tryz.prog 200 #[.pointer (some p)] (.panicking ({ v:=.iface 27 (.int .i64 er),recovered:=false } :: older)) w fun e u' w' =>
   e = .returned (.tuple #[]) ∧ u' = .panicking ({ v:=.iface 27 (.int .i64 er),recovered:=true } :: older) ∧ w' = w.setCell p (.int .i64 er):=by
 refine callsD_of_wpS Tryz.func200 rfl fun c₀ cs hu=>?_
 apply wpS_seq
 apply wpS_region
 simp [wpOpsS,go_sem,recoverD,hu,Tryz.ntmps200,Exit.thenS,rep14]
 have q1:=A.asOk
 refine wpS_of_wp ?_
 go_wp2
 simp [bodyPostS,results,Tryz.results200]
theorem catch_idle (p : Addr) (w : World) :
  CallsD Tryz.prog 200 #[.pointer (some p)] .returning w fun e u' w'=>e = .returned (.tuple #[]) ∧ u' = .returning ∧ w = w':=by
 refine callsD_of_wpS Tryz.func200 rfl fun c₀ cs hu=>?_
 apply wpS_seq
 apply wpS_region
 simp [wpOpsS,go_sem,recoverD,hu,Tryz.ntmps200,Exit.thenS,rep14]
 have q2:=A.asNil
 have q3:=A.neNone
 refine wpS_of_wp ?_
 go_wp2
 cases c₀
 simp_all [bodyPostS,results,Tryz.results200]
end Go.Proofs.YtnojgiflgmnjlaaGreatDoor.L3
namespace Go.Proofs.YtnojgiflgmnjlaaGreatDoor.L3
open Go.RowKit
def AtPost (pb : Nat) (x : Except Int (List Cp.C × List UInt8)) (w : World) (e : Ending) (w' : World) : Prop:=match x with
 | .error er=>e = .returned (.tuple #[.slice none 0 0,.int .i64 er]) ∧ w.grownBy w' (some pb)
 | .ok (l,r)=>∃ v,e = .returned (.tuple #[v,.int .i64 0]) ∧ OwnC w' w.heap.size v l ∧ Stp pb r w w'
theorem A.mkF (fn : Fn) (first cap : Array Value) (w : World) : (Instr.makeFunc fn first cap).run Tryz.prog w = .ok (.func fn first cap) w:=rfl
theorem own_mono {w : World} {base base' : Nat} {e : TypeId} {size : Nat} {v : Value} {n : Nat} {xs : List Value} (h : w.ownsRow base e size v n xs) (hb : base' ≤ base) : w.ownsRow base' e size v n xs:=by
 obtain ⟨h1,h2⟩:=h
 refine ⟨h1,?_⟩
 rcases h2 with h2|⟨g,cap,cur,hv,hg,r⟩
 ·exact .inl h2
 ·exact .inr ⟨g,cap,cur,hv,by omega,r⟩
theorem Stp.alloc {pb : Nat} {bs : List UInt8} {w w' : World} {o : Obj} (h : Stp pb bs (w.alloc o) w') : Stp pb bs w w':=by
 have h1:=h.1
 have z:=h1.size
 rw [World.size_alloc] at z
 exact ⟨⟨h1.os,h1.tape,h1.output,by omega,fun i hi hne=>(h1.block i (by rw [World.size_alloc];omega) hne).trans (((Below.refl w.heap.size w).alloc (Nat.le_refl _) _).block i hi)⟩,h.2⟩
theorem grown_alloc {pb : Nat} {w w' : World} {o : Obj} (h1 : (w.alloc o).grownBy w' (some pb)) : w.grownBy w' (some pb):=by
 have z:=h1.size
 rw [World.size_alloc] at z
 exact ⟨h1.os,h1.tape,h1.output,by omega,fun i hi hne=>(h1.block i (by rw [World.size_alloc];omega) hne).trans (((Below.refl w.heap.size w).alloc (Nat.le_refl _) _).block i hi)⟩
theorem grown_set {pb B : Nat} {w w' : World} (h : w.grownBy w' (some pb)) (hB : w.heap.size ≤ B) (j : Nat) (u : Value) : w.grownBy (w'.setCell ⟨B,j,none⟩ u) (some pb):=by
 have hg:=set_grown w' B j u
 exact ⟨h.os,h.tape,h.output,by rw [World.size_setCell];exact h.size,fun i hi hne=>(hg.block i (Nat.lt_of_lt_of_le hi h.size) (fun e=>by have:=Option.some.inj e;omega)).trans (h.block i hi hne)⟩
set_option maxHeartbeats 400000 in
theorem attempt_any (pb : Nat) (bs : List UInt8) (w : World) (hp : 1 ≤ pb) (ht : Tabs w) (hr : Rdr w pb bs) :
  Calls Tryz.prog 188 #[.pointer (some ⟨pb,0,none⟩)] w (AtPost pb (plP bs) w):=by
 have hps:=hr.sz
 have HP0:=fun W (h : Below w.heap.size w W)=>pool_any pb bs W hp (ht.below h (by omega)) (hr.below h hps)
 cases hx : plP bs with
 | error er =>
  rw [hx] at HP0
  unfold PlPost Bad pan at HP0
  dsimp only at HP0
  unfold AtPost
  have HP:=hid HP0
  have hmf:=A.mkF
  clear HP0 hx ht hr
  go_enter_defers Tryz.func188,Tryz.ntmps188
  go_wp2_with (go_at_call 201;refine (HP.out _ BLw).mono ?_;rintro e w2 ⟨rfl,hg2⟩;have hbx:=(BX.new w #[.int .i64 0] 27).grown hg2 (by simp;omega);have e0:=hbx.cell 0;have e1:=hbx.frozen 0;simp at e0)
  refine leaves_cons (f:=200) (args:=#[.pointer (some ⟨w.heap.size,0,none⟩)]) (by simp) (by simp [go_sem]) ?_
  refine (catch_panicking ⟨w.heap.size,0,none⟩ (.int .i64 0) er [] _ e0 e1).mono ?_
  rintro e u' w'' ⟨rfl,rfl,rfl⟩
  refine ⟨.tuple #[.slice none 0 0,.int .i64 er],by simp [results,Tryz.results188,go_sem,e0],rfl,?_⟩
  exact grown_set (grown_alloc hg2) (Nat.le_refl _) 0 _
 | ok y =>
  obtain ⟨l,r⟩:=y
  rw [hx] at HP0
  unfold PlPost at HP0
  dsimp only at HP0
  unfold AtPost
  have HP:=hid HP0
  have hmf:=A.mkF
  clear HP0 hx ht hr
  go_enter_defers Tryz.func188,Tryz.ntmps188
  go_wp2_with (go_at_call 201;refine (HP.out _ BLw).mono ?_;rintro e w2 ⟨v,rfl,ho2,hs2⟩;have hbx:=(BX.new w #[.int .i64 0] 27).grown hs2.1 (by simp;omega);have e0:=hbx.cell 0;have e1:=hbx.frozen 0;simp at e0)
  refine leaves_cons (f:=200) (args:=#[.pointer (some ⟨w.heap.size,0,none⟩)]) (by simp) (by simp [go_sem]) ?_
  refine (catch_idle ⟨w.heap.size,0,none⟩ _).mono ?_
  rintro e u' w'' ⟨rfl,rfl,rfl⟩
  refine ⟨.tuple #[v,.int .i64 0],by simp [results,Tryz.results188,go_sem,e0],_,rfl,?_,?_⟩
  ·have hlt : w.heap.size < (w.alloc (.cells #[.int .i64 0] 27)).heap.size:=by rw [World.size_alloc];omega
   exact own_mono (Kit.owns_grown ho2 (set_grown _ w.heap.size 0 _) hlt) (by omega)
  ·exact hs2.alloc.set (Nat.le_refl _) hps 0 _
end Go.Proofs.YtnojgiflgmnjlaaGreatDoor.L3
namespace Go.Proofs.YtnojgiflgmnjlaaGreatDoor.L3
open Go.RowKit
theorem txP_err {k : Nat} {bs : List UInt8} {er : Int} (h : txP k bs = .error er) : er ≠ 0:=by
 unfold txP at h
 repeat' split at h
 all_goals cases h
 all_goals decide
theorem enP_err {room : Int} {bs : List UInt8} {er : Int} (h : enP room bs = .error er) : er ≠ 0:=by
 cases bs with
 | nil=>unfold enP at h;cases h;decide
 | cons c r =>
  unfold enP at h
  dsimp only at h
  split at h
  ·cases h;decide
  ·split at h
   ·rename_i ht;cases h;exact txP_err ht
   ·repeat' split at h
    all_goals cases h
    all_goals decide
theorem plGo_err : ∀ {f n : Nat} {l : List Cp.C} {r : List UInt8} {er : Int},plGo f n l r = .error er → er ≠ 0
 | 0,_,_,_,_,h=>by cases h
 | f + 1,n,l,r,er,h=>by
  unfold plGo at h
  split at h
  ·split at h
   ·rename_i he;cases h;exact enP_err he
   ·exact plGo_err h
  ·cases h
theorem plP_err {bs : List UInt8} {er : Int} (h : plP bs = .error er) : er ≠ 0:=by
 unfold plP at h
 split at h
 ·cases h;decide
 ·split at h
  ·cases h;decide
  ·split at h
   ·cases h
   ·exact plGo_err h
def tkOut (bs : List UInt8) : List Cp.C × Int × Int:=match plP bs with
 | .error er=>([],0,er)
 | .ok (l,r)=>(l,(bs.length : Int) - (r.length : Int),0)
def TkPost (o : List Cp.C × Int × Int) (w : World) (e : Ending) (w' : World) : Prop:=∃ v,e = .returned (.tuple #[v,.int .i64 o.2.1,.int .i64 o.2.2]) ∧ OwnC w' w.heap.size v o.1 ∧ Below w.heap.size w w'
theorem grown_new {w w' : World} {o : Obj} (h1 : (w.alloc o).grownBy w' (some w.heap.size)) : Below w.heap.size w w':=by
 have z:=h1.size
 rw [World.size_alloc] at z
 exact ⟨h1.os,h1.tape,h1.output,by omega,fun i hi=>(h1.block i (by rw [World.size_alloc];omega) (fun e=>by have:=Option.some.inj e;omega)).trans (((Below.refl w.heap.size w).alloc (Nat.le_refl _) _).block i hi)⟩
set_option maxHeartbeats 400000 in
theorem take_any (bs : List UInt8) (v : Value) (w : World) (ht : Tabs w) (hv : Bs w.heap.size w v bs) :
  Calls Tryz.prog 166 #[v] w (TkPost (tkOut bs) w):=by
 have hrd : Rdr (w.alloc (.cells #[v] 221)) w.heap.size bs:=⟨v,BX.new _ _ _,hv.below ((Below.refl w.heap.size w).alloc (Nat.le_refl _) _) (Nat.le_refl _)⟩
 have HA0:=attempt_any w.heap.size bs _ ht.size (ht.below ((Below.refl w.heap.size w).alloc (Nat.le_refl _) (.cells #[v] 221)) ht.size) hrd
 have hlen:=hv.1
 obtain ⟨a,cap,rfl⟩:=hv.len
 unfold TkPost tkOut
 cases hx : plP bs with
 | error er =>
  have hne:=plP_err hx
  rw [hx] at HA0
  unfold AtPost at HA0
  dsimp only at HA0 ⊢
  have hd : (er != 0) = true:=by simpa using hne
  have HA:=hid HA0
  clear HA0 hx hrd hv ht hne
  go_enter Tryz.func166,Tryz.ntmps166
  go_wp2_with (go_at_call 188;refine HA.out.mono ?_;rintro e w2 ⟨rfl,hg2⟩)
  exact bodyPost_ret (v:=.tuple #[.slice none 0 0,.int .i64 0,.int .i64 er]) (by simp [results,Tryz.results166,go_sem]) rfl ⟨_,rfl,nilC _ _,grown_new hg2⟩
 | ok y =>
  obtain ⟨l,r⟩:=y
  rw [hx] at HA0
  unfold AtPost at HA0
  dsimp only at HA0 ⊢
  have HA:=hid HA0
  clear HA0 hx hrd hv ht
  go_enter Tryz.func166,Tryz.ntmps166
  go_wp2_with (go_at_call 188;refine HA.out.mono ?_;rintro e w2 ⟨v2,rfl,ho2,hs2⟩;have hb2:=grown_new hs2.1;obtain ⟨v3,hc3,hv3⟩:=hs2.2;obtain ⟨a3,cap3,rfl⟩:=hv3.len;have hl3:=hv3.1;have c3:=BX.cell hc3 0;simp at c3;have HO:=hid ho2;have HB:=hid hb2;clear hs2 hc3 hv3 ho2 hb2)
  have hw : IntKind.i64.wrap ((bs.length : Int) - (r.length : Int)) = (bs.length : Int) - (r.length : Int):=IntWalk.i64_in _ (by omega)
  go_quiet (fail)
  go_wp2
  have hb:=HB.out
  refine bodyPost_ret (v:=.tuple #[v2,.int .i64 ((bs.length : Int) - (r.length : Int)),.int .i64 0]) (by simp [results,Tryz.results166,go_sem]) rfl ⟨_,rfl,?_,BLw⟩
  exact own_mono (Kit.owns_below HO.out (B:=w2.heap.size) BLw (Nat.le_refl _)) (by rw [World.size_alloc];omega)
end Go.Proofs.YtnojgiflgmnjlaaGreatDoor.L3
