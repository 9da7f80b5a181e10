/- ClassfileMakes is true for every class, all numbers and texts and every member, as long as the listed tables of packages opcode and cpool hold what the text of the program lays there (the card ties it). -/
import Derived.Test.YtnojgiflgmnjlaaGreatDoorZM25
set_option maxRecDepth 100000
namespace Go.Proofs.YtnojgiflgmnjlaaGreatDoor
open Go.ChangeShapes Go.WideShapes Go.ChangeAt Go.RowKit Go.WideMaps Go.WideElems
set_option maxRecDepth 100000
section
variable {H : Type} {enc : TypeId × Value → H}
structure GoodC (c : L3.Cp.C) : Prop where
 s : c.s.size ≤ 140737488351232
 n : L3.I6 c.n
theorem c_cells {W : World} {n : Nat} {cs : List Value} {y : DataW H × List MemPlace} (h : DataW.trod enc Tryz.prog W 0 (fun _=>true) true n 56 cs = some y) (hw : (y.1.weights Tryz.prog 56).all (·≤ reachBytes) = true) :
  ∃ c : L3.Cp.C,cs = L3.cL c ∧ GoodC c:=by
 obtain ⟨xs,m,-,hy,hl,hlen,hf⟩:=DataW.trod_struct Tryz.underlying56 h
 have hl5 : cs.length = 5:=hl.trans (by kernel_rfl)
 have hx5 : xs.length = 5:=hlen
 match xs,hx5 with
 | [x0,x1,x2,x3,x4],_ =>
 match cs,hl5 with
 | [k0,k1,k2,k3,k4],_ =>
 obtain ⟨t,e0,g0,w0⟩:=DataW.trod_int Tryz.underlying3 (hf 0 _ rfl)
 obtain ⟨s,e1,g1,-⟩:=DataW.trod_string Tryz.underlying9 (hf 1 _ rfl)
 obtain ⟨nn,e2,g2,w2⟩:=DataW.trod_int Tryz.underlying2 (hf 2 _ rfl)
 obtain ⟨a,e3,g3,w3⟩:=DataW.trod_int Tryz.underlying3 (hf 3 _ rfl)
 obtain ⟨b,e4,g4,w4⟩:=DataW.trod_int Tryz.underlying3 (hf 4 _ rfl)
 have q0 : ([k0,k1,k2,k3,k4].drop 0).take (Tryz.prog.cellsOf 3) = [.int .i64 t]:=e0
 have q1 : ([k0,k1,k2,k3,k4].drop 1).take (Tryz.prog.cellsOf 9) = [.string s]:=e1
 have q2 : ([k0,k1,k2,k3,k4].drop 2).take (Tryz.prog.cellsOf 2) = [.int .i64 nn]:=e2
 have q3 : ([k0,k1,k2,k3,k4].drop 3).take (Tryz.prog.cellsOf 3) = [.int .i64 a]:=e3
 have q4 : ([k0,k1,k2,k3,k4].drop 4).take (Tryz.prog.cellsOf 3) = [.int .i64 b]:=e4
 clear e0 e1 e2 e3 e4 hf
 rw [A.cellsInt] at q0 q3 q4
 rw [A.cellsStr] at q1
 rw [A.cellsI64] at q2
 simp only [List.drop_zero,List.take_succ_cons,List.take_zero,List.cons.injEq,and_true,List.drop_succ_cons] at q0 q1 q2 q3 q4
 subst q0 q1 q2 q3 q4
 subst g0 g1 g2 g3 g4 hy
 refine ⟨⟨t,s,nn,a,b⟩,rfl,?_,i6_wf w2⟩
 simp [DataW.weights,Tryz.underlying56,DataW.weightsEach,reachBytes] at hw
 exact of_decide_eq_true hw
theorem cs_cell {W : World} {n : Nat} {k : Value} {y : DataW H × List MemPlace} (h : DataW.trod enc Tryz.prog W 0 (fun _=>true) true n 23 [k] = some y) (hw : (y.1.weights Tryz.prog 23).all (·≤ reachBytes) = true) :
  ∃ l : List L3.Cp.C,Kit.IsS 5 W k l.length (l.flatMap L3.cL) ∧ (∀ c ∈ l,GoodC c) ∧ l.length * 48 ≤ 140737488351232 ∧ l.length ≤ Rows.uptoBulk y.1:=by
 obtain ⟨xs,rs,h1,h2,h3,h4,h5⟩:=list_cell (s:=5) (by_:=48) (tE:=56) (fun (_ : DataW H) cs (x : L3.Cp.C)=>cs = L3.cL x ∧ GoodC x) (fun _ _ x h=>by rw [h.1];rfl) (by decide) Tryz.underlying23 (by kernel_rfl) (by kernel_rfl) (by decide) (fun m cs z hz hw=>c_cells hz hw) h hw
 refine ⟨xs,?_,fun c hc=>?_,h4,h5⟩
 ·rw [← rs_map h1 (fun i r x hr hx=>by obtain ⟨d,hd,-⟩:=h2 i r x hr hx;exact hd.1)]
  exact h3
 ·obtain ⟨i,hi⟩:=List.mem_iff_getElem?.1 hc
  have hlt : i < rs.length:=by rw [h1];exact (List.getElem?_eq_some_iff.1 hi).1
  obtain ⟨d,hd,-⟩:=h2 i _ c (List.getElem?_eq_getElem hlt) hi
  exact hd.2
theorem A.cellsCs : Tryz.prog.cellsOf 23 = 1:=by kernel_rfl
theorem A.cellsMs : Tryz.prog.cellsOf 24 = 1:=by kernel_rfl
structure GoodCl (c : Cf.Cl) (B : Nat) : Prop where
 ac : L3.I6 c.ac
 pl : c.pool.length * 48 ≤ 140737488351232
 ps : ∀ x ∈ c.pool,GoodC x
 fl : c.fs.length * 88 ≤ 140737488351232
 ml : c.ms.length * 88 ≤ 140737488351232
 fs : ∀ m ∈ c.fs,GoodM m B
 ms : ∀ m ∈ c.ms,GoodM m B
 pB : c.pool.length ≤ B
 fB : c.fs.length ≤ B
 mB : c.ms.length ≤ B
theorem open_class {W : World} {base : Nat} {v : Value} {d : DataW H} {p : List MemPlace} (hv : Value.okWide Tryz.prog W .any base 26 v) (h : DataW.Trod enc Tryz.prog W 0 (fun _=>true) true 26 v d p) (hw : (d.weights Tryz.prog 26).all (·≤ reachBytes) = true) :
  ∃ (c : Cf.Cl) (vs : Array Value),v = .agg vs ∧ ClR W vs c ∧ GoodCl c (Rows.uptoBulk d):=by
 obtain ⟨cs,rfl,hsz⟩:=okWide_struct Tryz.underlying26 hv
 obtain ⟨fuel,hf0⟩:=h
 obtain ⟨xs,m,-,hy,hl,hlen,hf⟩:=DataW.trod_struct Tryz.underlying26 hf0
 obtain ⟨cs⟩:=cs
 have hl8 : cs.length = 8:=hl.trans (by kernel_rfl)
 have hx8 : xs.length = 8:=hlen
 match xs,hx8 with
 | [x0,x1,x2,x3,x4,x5,x6,x7],_ =>
 match cs,hl8 with
 | [k0,k1,k2,k3,k4,k5,k6,k7],_ =>
 obtain ⟨a0,e0,g0,w0⟩:=DataW.trod_int Tryz.underlying3 (hf 0 _ rfl)
 obtain ⟨a1,e1,g1,w1⟩:=DataW.trod_int Tryz.underlying3 (hf 1 _ rfl)
 obtain ⟨a3,e3,g3,w3⟩:=DataW.trod_int Tryz.underlying3 (hf 3 _ rfl)
 obtain ⟨a4,e4,g4,w4⟩:=DataW.trod_int Tryz.underlying3 (hf 4 _ rfl)
 obtain ⟨a5,e5,g5,w5⟩:=DataW.trod_int Tryz.underlying3 (hf 5 _ rfl)
 have q0 : ([k0,k1,k2,k3,k4,k5,k6,k7].drop 0).take (Tryz.prog.cellsOf 3) = [.int .i64 a0]:=e0
 have q1 : ([k0,k1,k2,k3,k4,k5,k6,k7].drop 1).take (Tryz.prog.cellsOf 3) = [.int .i64 a1]:=e1
 have q3 : ([k0,k1,k2,k3,k4,k5,k6,k7].drop 3).take (Tryz.prog.cellsOf 3) = [.int .i64 a3]:=e3
 have q4 : ([k0,k1,k2,k3,k4,k5,k6,k7].drop 4).take (Tryz.prog.cellsOf 3) = [.int .i64 a4]:=e4
 have q5 : ([k0,k1,k2,k3,k4,k5,k6,k7].drop 5).take (Tryz.prog.cellsOf 3) = [.int .i64 a5]:=e5
 have f2 : DataW.trod enc Tryz.prog W 0 (fun _=>true) true m 23 (([k0,k1,k2,k3,k4,k5,k6,k7].drop 2).take (Tryz.prog.cellsOf 23)) = some x2:=hf 2 _ rfl
 have f6 : DataW.trod enc Tryz.prog W 0 (fun _=>true) true m 24 (([k0,k1,k2,k3,k4,k5,k6,k7].drop 6).take (Tryz.prog.cellsOf 24)) = some x6:=hf 6 _ rfl
 have f7 : DataW.trod enc Tryz.prog W 0 (fun _=>true) true m 24 (([k0,k1,k2,k3,k4,k5,k6,k7].drop 7).take (Tryz.prog.cellsOf 24)) = some x7:=hf 7 _ rfl
 rw [A.cellsInt] at q0 q1 q3 q4 q5
 rw [A.cellsCs] at f2
 rw [A.cellsMs] at f6 f7
 simp only [List.drop_zero,List.take_succ_cons,List.take_zero,List.cons.injEq,and_true,List.drop_succ_cons] at q0 q1 q3 q4 q5 f2 f6 f7
 subst q0 q1 q3 q4 q5
 obtain ⟨rfl,-⟩:=Prod.mk.inj hy
 simp only [DataW.weights,Tryz.underlying26,List.map_cons,List.map_nil,DataW.weightsEach,List.all_append,Bool.and_eq_true] at hw
 obtain ⟨P,hp1,hp2,hp3,hp4⟩:=cs_cell f2 (by simp_all)
 obtain ⟨fs,hf1,hf2,hf3,hf4⟩:=ms_cell f6 (by simp_all)
 obtain ⟨ms,hm1,hm2,hm3,hm4⟩:=ms_cell f7 (by simp_all)
 have hB : Rows.uptoBulk x2.1 ≤ Rows.uptoBulk (.agg ([x0,x1,x2,x3,x4,x5,x6,x7].map (·.1)) : DataW H) ∧ Rows.uptoBulk x6.1 ≤ Rows.uptoBulk (.agg ([x0,x1,x2,x3,x4,x5,x6,x7].map (·.1)) : DataW H) ∧ Rows.uptoBulk x7.1 ≤ Rows.uptoBulk (.agg ([x0,x1,x2,x3,x4,x5,x6,x7].map (·.1)) : DataW H):=by
  simp only [Rows.uptoBulk,Rows.uptoBulkAll,List.map_cons,List.map_nil]
  omega
 refine ⟨⟨a0,a1,P,a3,a4,a5,fs,ms⟩,_,rfl,⟨k2,k6,k7,rfl,hp1,hf1,hm1⟩,⟨i6_wf w3,hp3,hp2,hf3,hm3,fun m hm=>?_,fun m hm=>?_,Nat.le_trans hp4 hB.1,Nat.le_trans hf4 hB.2.1,Nat.le_trans hm4 hB.2.2⟩⟩
 ·have g:=hf2 m hm
  exact ⟨g.ac,g.hs,Nat.le_trans g.cb hB.2.1,Nat.le_trans g.hb hB.2.1⟩
 ·have g:=hm2 m hm
  exact ⟨g.ac,g.hs,Nat.le_trans g.cb hB.2.2,Nat.le_trans g.hb hB.2.2⟩
end
end Go.Proofs.YtnojgiflgmnjlaaGreatDoor
namespace Go.Proofs.YtnojgiflgmnjlaaGreatDoor
open Go.RowKit
namespace Cf
theorem en_at {P : List L3.Cp.C} {i : Nat} {c : L3.Cp.C} {tag : Int} (h : P[i]? = some c) (ht : c.t = tag) : L3.enA P (i : Int) tag = some c:=by
 have:=(List.getElem?_eq_some_iff.1 h).1
 unfold L3.enA
 rw [if_pos (by omega),Int.toNat_natCast,h]
 dsimp only
 rw [if_pos ht]
theorem en_app {P t : List L3.Cp.C} {i tag : Int} {c : L3.Cp.C} (h : L3.enA P i tag = some c) : L3.enA (P ++ t) i tag = some c:=by
 rcases L3.enA_cases P i tag with ⟨_,h'⟩|⟨_,_,h'⟩|⟨k,d,rfl,hk,hd,⟨ht,h'⟩|⟨_,h'⟩⟩ <;> rw [h'] at h
 ·cases h
 ·cases h
 ·cases h;exact en_at (by rw [List.getElem?_append_left hk];exact hd) ht
 ·cases h
theorem tx_app {P t : List L3.Cp.C} {i : Int} (h : (L3.txO P i).2 = 0) : L3.txO (P ++ t) i = L3.txO P i:=by
 unfold L3.txO at h ⊢
 cases e : L3.enA P i 1 with
 | none=>rw [e] at h;exact absurd h (by show ¬ ((33 : Int) = 0);decide)
 | some c=>rw [en_app e]
theorem mb_app {P t : List L3.Cp.C} {m : Mb} (h : (mbO P m).2 = 0) : mbO (P ++ t) m = mbO P m:=by
 by_cases h1 : (L3.txO P m.nm).2 = 0
 ·by_cases h2 : (L3.txO P m.ds).2 = 0
  ·unfold mbO
   rw [tx_app h1,tx_app h2]
  ·unfold mbO at h
   rw [if_neg (by simpa using h1),if_pos h2] at h
   exact absurd h h2
 ·unfold mbO at h
  rw [if_pos h1] at h
  exact absurd h h1
theorem fst0 {R : Nat → Int → Prop} {n : Nat} (h : FstR R n 0) : ∀ k,k < n → R k 0:=by
 rcases h with ⟨-,h⟩|⟨h,-⟩
 ·exact h
 ·exact absurd rfl h
theorem cl_len {c : Cl} (h : ClIs c 0) : c.fs.length ≤ 256 ∧ c.ms.length ≤ 256:=by
 have h0 : HdIs c 0:=fst0 h 0 (by omega)
 unfold HdIs at h0
 split at h0
 ·cases h0
 ·obtain ⟨pk,-,h0⟩:=h0
  split at h0
  ·rename_i h1;exact absurd h0.symm h1
  ·split at h0
   ·cases h0
   ·split at h0
    ·rename_i h1;exact absurd h0.symm h1
    ·split at h0
     ·rename_i h1;exact absurd h0.symm h1
     ·split at h0
      ·cases h0
      ·rename_i h1;omega
def Had (P : List L3.Cp.C) (l : List Mb) (hs : List (ByteArray × ByteArray)) : Prop:=l.length = hs.length ∧ ∀ (k : Nat) (m : Mb),l[k]? = some m → ∃ n,hs[k]? = some n ∧ mbO P m = (n,0)
theorem Had.nil (P : List L3.Cp.C) : Had P [] []:=⟨rfl,fun k m h=>by simp at h⟩
theorem Had.app {P t : List L3.Cp.C} {l : List Mb} {hs : List (ByteArray × ByteArray)} (h : Had P l hs) : Had (P ++ t) l hs :=
 ⟨h.1,fun k m hk=>by obtain ⟨n,h1,h2⟩:=h.2 k m hk;exact ⟨n,h1,by rw [mb_app (by rw [h2]),h2]⟩⟩
theorem Had.snoc {P : List L3.Cp.C} {l : List Mb} {hs : List (ByteArray × ByteArray)} {m : Mb} {n : ByteArray × ByteArray} (h : Had P l hs) (hn : mbO P m = (n,0)) : Had P (l ++ [m]) (hs ++ [n]):=by
 refine ⟨by simp [h.1],fun k x hk=>?_⟩
 by_cases hlt : k < l.length
 ·rw [List.getElem?_append_left hlt] at hk
  obtain ⟨n',h1,h2⟩:=h.2 k x hk
  exact ⟨n',by rw [List.getElem?_append_left (by have:=h.1;omega)];exact h1,h2⟩
 ·rw [List.getElem?_append_right (by omega)] at hk
  have e : k - l.length = 0:=by
   have:=(List.getElem?_eq_some_iff.1 hk).1
   simp at this
   omega
  rw [e] at hk
  obtain rfl : m = x:=by simpa using hk
  exact ⟨n,by rw [List.getElem?_append_right (by have:=h.1;omega),show k - hs.length = 0 by have:=h.1;omega];rfl,hn⟩
end Cf
structure Grw (c : Cf.Cl) (hf hm : List (ByteArray × ByteArray)) (B : Nat) : Prop where
 ok : Cf.ClIs c 0
 sz : PoolSz c.pool
 f : Cf.Had c.pool c.fs hf
 m : Cf.Had c.pool c.ms hm
 hs : ∀ x ∈ c.fs,x.hs.length * 32 ≤ B
 hm : ∀ x ∈ c.ms,x.hs.length * 32 ≤ B
theorem Grw.len {c : Cf.Cl} {hf hm : List (ByteArray × ByteArray)} {B : Nat} (h : Grw c hf hm B) : c.fs.length = hf.length ∧ c.ms.length = hm.length ∧ c.fs.length ≤ 256 ∧ c.ms.length ≤ 256:=⟨h.f.1,h.m.1,(Cf.cl_len h.ok).1,(Cf.cl_len h.ok).2⟩
end Go.Proofs.YtnojgiflgmnjlaaGreatDoor
namespace Go.Proofs.YtnojgiflgmnjlaaGreatDoor
open Go.RowKit
def Off (S : Nat → Prop) (w W : World) : Prop:=W.os = w.os ∧ W.tape = w.tape ∧ W.output = w.output ∧ w.heap.size ≤ W.heap.size ∧ ∀ i,i < w.heap.size → ¬ S i → W.heap[i]? = w.heap[i]?
theorem Off.refl (S : Nat → Prop) (w : World) : Off S w w:=⟨rfl,rfl,rfl,Nat.le_refl _,fun _ _ _=>rfl⟩
theorem Off.trans {S : Nat → Prop} {a b c : World} (h : Off S a b) (k : Off S b c) : Off S a c :=
 ⟨k.1.trans h.1,k.2.1.trans h.2.1,k.2.2.1.trans h.2.2.1,Nat.le_trans h.2.2.2.1 k.2.2.2.1,fun i hi hn=>(k.2.2.2.2 i (Nat.lt_of_lt_of_le hi h.2.2.2.1) hn).trans (h.2.2.2.2 i hi hn)⟩
theorem Off.below {S : Nat → Prop} {w W : World} (hb : Below w.heap.size w W) : Off S w W:=⟨hb.os,hb.tape,hb.output,hb.size,fun i hi _=>hb.block i hi⟩
theorem Off.grown {S : Nat → Prop} {w W : World} {r : Option Nat} (hg : w.grownBy W r) (h : ∀ k,r = some k → S k) : Off S w W:=⟨hg.os,hg.tape,hg.output,hg.size,fun i hi hn=>hg.block i hi (fun e=>hn (h i e.symm))⟩
theorem Off.to_below {S : Nat → Prop} {w W : World} (h : Off S w W) {B : Nat} (hS : ∀ i,i < B → ¬ S i) (hB : B ≤ w.heap.size) : Below B w W:=⟨h.1,h.2.1,h.2.2.1,h.2.2.2.1,fun i hi=>h.2.2.2.2 i (by omega) (hS i hi)⟩
theorem owns_off {S : Nat → Prop} {w W : World} {base : Nat} {e : TypeId} {size n : Nat} {v : Value} {xs : List Value} (h : w.ownsRow base e size v n xs) (k : Off S w W) (hS : ∀ i,v.ownBlock = some i → ¬ S i) : W.ownsRow base e size v n xs:=by
 refine ⟨h.1,?_⟩
 rcases h.2 with h2|⟨g,cap,cur,hv,hge,hh,r⟩
 ·exact .inl h2
 ·exact .inr ⟨g,cap,cur,hv,hge,(k.2.2.2.2 g (Array.getElem?_eq_some_iff.1 hh).1 (hS g (by rw [hv];rfl))).trans hh,r⟩
theorem owns_off' {S : Nat → Prop} {w W : World} {base : Nat} {e : TypeId} {size n : Nat} {v : Value} {xs : List Value} (h : w.ownsRow base e size v n xs) (k : Off S w W) (hS : ∀ i,S i → i < base) : W.ownsRow base e size v n xs :=
 owns_off h k fun i hi hs=>by have:=Kit.own_base h i hi;have:=hS i hs;omega
theorem OMb.off {S : Nat → Prop} {w W : World} {base : Nat} {cs : List Value} {m : Cf.Mb} (h : OMb w base cs m) (k : Off S w W) (hS : ∀ i,S i → i < base) : OMb W base cs m:=by
 obtain ⟨cv,hv,h1,h2,h3,h4⟩:=h
 exact ⟨cv,hv,h1,owns_off' h2 k hS,owns_off' h3 k hS,h4⟩
theorem OMs.off {S : Nat → Prop} {w W : World} {base : Nat} {v : Value} {ms : List Cf.Mb} (h : OMs w base v ms) (k : Off S w W) (hS : ∀ i,S i → i < base) : OMs W base v ms:=by
 obtain ⟨rs,h1,h2⟩:=h
 exact ⟨rs,h1.mono fun _ _ x=>x.off k hS,owns_off' h2 k hS⟩
theorem OCl.off {S : Nat → Prop} {w W : World} {base : Nat} {vs : Array Value} {c : Cf.Cl} (h : OCl w base vs c) (k : Off S w W) (hS : ∀ i,S i → i < base) : OCl W base vs c:=by
 obtain ⟨pv,fv,mv,h1,h2,h3,h4⟩:=h
 exact ⟨pv,fv,mv,h1,owns_off' h2 k hS,h3.off k hS,h4.off k hS⟩
def ClA (S : Nat → Prop) (w : World) (vs : Array Value) (c : Cf.Cl) : Prop:=∀ W,Off S w W → ClR W vs c
theorem ClA.own {S : Nat → Prop} {w : World} {base : Nat} {vs : Array Value} {c : Cf.Cl} (h : OCl w base vs c) (hz : Cf.Sz c) (hS : ∀ i,S i → i < base) : ClA S w vs c:=fun _ k=>(h.off k hS).reads hz
theorem ClA.step {S S' : Nat → Prop} {w w2 : World} {vs : Array Value} {c : Cf.Cl} (h : ClA S w vs c) (k : Off S w w2) (hS : ∀ i,i < w.heap.size → S' i → S i) : ClA S' w2 vs c:=fun W q =>
 h W ⟨q.1.trans k.1,q.2.1.trans k.2.1,q.2.2.1.trans k.2.2.1,Nat.le_trans k.2.2.2.1 q.2.2.2.1,fun i hi hn=>(q.2.2.2.2 i (Nat.lt_of_lt_of_le hi k.2.2.2.1) (fun hs=>hn (hS i hi hs))).trans (k.2.2.2.2 i hi hn)⟩
def Bad (b : Nat) (v : Value) (i : Nat) : Prop:=i = b ∨ v.ownBlock = some i
theorem own_lt {w : World} {base : Nat} {e : TypeId} {size n : Nat} {v : Value} {xs : List Value} (h : w.ownsRow base e size v n xs) : ∀ k,v.ownBlock = some k → k < w.heap.size:=by
 rcases h.2 with ⟨rfl,-⟩|⟨g,cap,cur,rfl,-,hh,-⟩
 ·intro k e;cases e
 ·intro k e
  cases e
  exact (Array.getElem?_eq_some_iff.1 hh).1
abbrev Nm3:=ByteArray × ByteArray × ByteArray
def hd3 (n : ByteArray × ByteArray) : Nm3:=(⟨#[]⟩,n.1,n.2)
end Go.Proofs.YtnojgiflgmnjlaaGreatDoor
namespace Go.Proofs.YtnojgiflgmnjlaaGreatDoor
open Go.ChangeShapes Go.WideShapes Go.ChangeAt Go.RowKit Go.WideMaps Go.WideElems
set_option maxRecDepth 100000
section
variable {H : Type} {enc : TypeId × Value → H}
theorem open_mb {W : World} {base : Nat} {v : Value} {d : DataW H} {p : List MemPlace} (hv : Value.okWide Tryz.prog W .any base 42 v) (h : DataW.Trod enc Tryz.prog W 0 (fun _=>true) true 42 v d p) (hw : (d.weights Tryz.prog 42).all (·≤ reachBytes) = true) :
  ∃ (m : Cf.Mb) (cv hv : Value),v = mbV m cv hv ∧ L3.Bs W.heap.size W cv m.code ∧ Kit.IsS 4 W hv m.hs.length (m.hs.flatMap hL) ∧ m.code.length ≤ 140737488355328 ∧ GoodM m (Rows.uptoBulk d):=by
 obtain ⟨cs,rfl,hsz⟩:=okWide_struct Tryz.underlying42 hv
 obtain ⟨fuel,hf0⟩:=h
 obtain ⟨cs⟩:=cs
 obtain ⟨m,⟨cv,hv9,rfl,h1,h2,h3⟩,h4⟩:=mb_cells hf0 hw
 exact ⟨m,cv,hv9,rfl,h1,h2,h3,h4⟩
end
end Go.Proofs.YtnojgiflgmnjlaaGreatDoor
namespace Go.Proofs.YtnojgiflgmnjlaaGreatDoor.lawMakes
open Go.ChangeShapes Go.WideShapes Go.ChangeAt Go.RowKit Go.WideMaps Go.WideElems
open Go.ChangeMaps (setBlock shut_map_nil open_string shut_string keptBut_setBlock frozen?_setBlock heap_setBlock_same)
theorem contract (H : Type) (enc : TypeId × Value → H) (W : World) (base : Nat) (args : Array Value) (ds gs : List (DataW H)) (before : List MemPlace)
  (hval : ∀ (j : Nat) t v,Tryz.f6.params[j]? = some t → args[j]? = some v → Value.okWide Tryz.prog W .any base t v)
  (hW : DataW.Whole enc Tryz.prog Tryz.f6.params.toList Rows.classfileMakesSpec.vars false W args.toList ds gs before)
  (hsz : (DataW.weightsEach Tryz.prog (Tryz.f6.params.toList ++ (OpenSpec.ofChange Rows.classfileMakesSpec).bare.plain.varTypes Tryz.prog) (ds ++ gs)).all (·≤ reachBytes) = true)
  (hL : laidMetH Tryz.prog Rows.classfileMakesRow.laid W) :
  Calls Tryz.prog 6 args W fun e W'=>∃ v,e = .returned v ∧ Rows.classfileMakesSpec.post enc Tryz.prog Tryz.f6 false true false false W args v W':=by
 have hW':=hW
 obtain ⟨p,q,hA0,hV,rfl,hfz,hnd⟩:=hW
 have hA : DataW.TrodAll enc Tryz.prog W 0 (fun _=>true) true Tryz.f6.params.toList args.toList ds p:=hA0
 rw [Tryz.params6] at hA hval hsz
 obtain ⟨v0,vs0,d0,ds0,p0,q0,hargs,rfl,rfl,h0,r0⟩:=trodAll_cons hA
 obtain ⟨v1,vs1,d1,ds1,p1,q1,rfl,rfl,rfl,h1,r1⟩:=trodAll_cons r0
 obtain ⟨v2,vs2,d2,ds2,p2,q2,rfl,rfl,rfl,h2,r2⟩:=trodAll_cons r1
 obtain ⟨v3,vs3,d3,ds3,p3,q3,rfl,rfl,rfl,h3,r3⟩:=trodAll_cons r2
 obtain ⟨v4,vs4,d4,ds4,p4,q4,rfl,rfl,rfl,h4,r4⟩:=trodAll_cons r3
 obtain ⟨rfl,rfl,rfl⟩:=trodAll_nil r4
 obtain rfl : args = #[v0,v1,v2,v3,v4]:=by cases args;simp_all
 obtain ⟨rfl,rfl⟩:=trodVars_none hV
 obtain ⟨x0,y0,rfl,wx0,wg0⟩:=open_class (hval 0 26 v0 rfl rfl) h0 (weights_eachT (j:=0) (t:=26) (d:=d0) rfl rfl hsz)
 obtain ⟨x1,rfl,rfl,rfl,wx1⟩:=open_int Tryz.underlying3 (hval 1 3 v1 rfl rfl) h1
 obtain ⟨x2,rfl,rfl,rfl,wx2⟩:=open_string Tryz.underlying9 (hval 2 9 v2 rfl rfl) h2
 obtain ⟨x3,rfl,rfl,rfl,wx3⟩:=open_string Tryz.underlying9 (hval 3 9 v3 rfl rfl) h3
 obtain ⟨x4,c4,k4,rfl,wb4,wh4,wc4,wg4⟩:=open_mb (hval 4 42 v4 rfl rfl) h4 (weights_eachT (j:=4) (t:=42) (d:=d4) rfl rfl hsz)
 refine (makes_full x0 _ x1 x2 x3 x4 c4 k4 W (tabs1_of_laid hL) (tabs3_of_laid hL) wx0 (by refine ⟨?_,?_,?_,fun m hm=>?_,fun m hm=>?_⟩;(have:=wg0.pl;omega);(have:=wg0.fl;omega);(have:=wg0.ml;omega);(have:=(wg0.fs m hm).hs;omega);(have:=(wg0.ms m hm).hs;omega)) ⟨by have:=wg0.pl;omega,fun c hc=>Nat.le_trans (wg0.ps c hc).s (by decide)⟩ (fun c hc=>⟨Nat.le_trans (wg0.ps c hc).s (by decide),(wg0.ps c hc).n⟩) wb4 wh4 wc4 (by have:=wg4.hs;omega) (by have h9:=weights_eachT (j:=2) (t:=9) rfl rfl hsz;simp [DataW.weights,Tryz.underlying9,reachBytes] at h9;have h8:=of_decide_eq_true h9;first|(have h7 : x2.size ≤ 140737488351232:=h8;omega)|(simp at h8;omega)) (by have h9:=weights_eachT (j:=3) (t:=9) rfl rfl hsz;simp [DataW.weights,Tryz.underlying9,reachBytes] at h9;have h8:=of_decide_eq_true h9;first|(have h7 : x3.size ≤ 140737488351232:=h8;omega)|(simp at h8;omega)) (by have:=wg0.fl;omega) (by have:=wg0.ml;omega)).mono fun e W' ⟨he,hb⟩=>?_
 subst he
 exact ⟨_,rfl,Kit.law_post rfl rfl Tryz.underlying4 (by kernel_rfl) (by decide +kernel) hW' rfl hb⟩
theorem reads (os : Os) {H : Type} (enc : TypeId × Value → H) : ∃ places,DataW.whole enc Tryz.prog ((laidWorld os).forCall (fun _ _=>0) ⟨#[],#[.agg #[.int .i64 0,.int .i64 0,.slice none 0 0,.int .i64 0,.int .i64 0,.int .i64 0,.slice none 0 0,.slice none 0 0],.int .i64 0,.string ⟨#[]⟩,.string ⟨#[]⟩,.agg #[.int .i64 0,.int .i64 0,.int .i64 0,.int .i64 0,.int .i64 0,.slice none 0 0,.slice none 0 0]],[]⟩).memory Tryz.f6.params.toList Rows.classfileMakesSpec.vars false (#[.agg #[.int .i64 0,.int .i64 0,.slice none 0 0,.int .i64 0,.int .i64 0,.int .i64 0,.slice none 0 0,.slice none 0 0],.int .i64 0,.string ⟨#[]⟩,.string ⟨#[]⟩,.agg #[.int .i64 0,.int .i64 0,.int .i64 0,.int .i64 0,.int .i64 0,.slice none 0 0,.slice none 0 0]] : Array Value).toList 8 = some ([.agg [.lit (.int .i64 0),.lit (.int .i64 0),.nil,.lit (.int .i64 0),.lit (.int .i64 0),.lit (.int .i64 0),.nil,.nil],.lit (.int .i64 0),.lit (.string []),.lit (.string []),.agg [.lit (.int .i64 0),.lit (.int .i64 0),.lit (.int .i64 0),.lit (.int .i64 0),.lit (.int .i64 0),.nil,.nil]],[],places) :=
 ⟨[],by kernel_rfl⟩
theorem laid_met (os : Os) : laidMet Tryz.prog Rows.classfileMakesRow.laid ((laidWorld os).forCall (fun _ _=>0) ⟨#[],#[.agg #[.int .i64 0,.int .i64 0,.slice none 0 0,.int .i64 0,.int .i64 0,.int .i64 0,.slice none 0 0,.slice none 0 0],.int .i64 0,.string ⟨#[]⟩,.string ⟨#[]⟩,.agg #[.int .i64 0,.int .i64 0,.int .i64 0,.int .i64 0,.int .i64 0,.slice none 0 0,.slice none 0 0]],[]⟩).memory :=
 laidMet_of_run' 8 (by kernel_rfl) (by kernel_rfl)
theorem lifted (os : Os) (started : os.Started) (H : Type) (enc : TypeId × Value → H) (F : Stop.Interp) :
  ReturnsInHanded {} Tryz.checked os 6 .any ((OpenSpec.ofChange Rows.classfileMakesSpec).preRow enc Tryz.prog Tryz.f6 Rows.classfileMakesRow.domain false Rows.classfileMakesRow.laid) (((OpenSpec.ofChange Rows.classfileMakesSpec).at F).post enc Tryz.prog Tryz.f6 false true false false):=by
 obtain ⟨places,hx⟩:=reads os enc
 refine returnsInHanded_of_row (C:=Tryz.checked) (s:=(OpenSpec.ofChange Rows.classfileMakesSpec)) own started (by kernel_rfl) Tryz.func6
  (witness_row_at (enc:=enc) (C:=Tryz.checked) false (laidWorld os) #[.agg #[.int .i64 0,.int .i64 0,.slice none 0 0,.int .i64 0,.int .i64 0,.int .i64 0,.slice none 0 0,.slice none 0 0],.int .i64 0,.string ⟨#[]⟩,.string ⟨#[]⟩,.agg #[.int .i64 0,.int .i64 0,.int .i64 0,.int .i64 0,.int .i64 0,.slice none 0 0,.slice none 0 0]] rfl (by kernel_rfl) (by kernel_rfl) (by kernel_rfl)
   (OpenSpec.preRow_of_cond 8 hx (by kernel_rfl) (fun k hk=>by cases hk) (by kernel_rfl) (laid_met os))) ?_
 intro W base args ds gs before hval hW _ _ hsz hL _ _
 exact contract H enc W base args ds gs before hval hW hsz hL
theorem said : Rows.ClassfileMakesSaid :=
 OpenClaim.holds_of_cond 6 Tryz.f6 rfl rfl rfl rfl rfl rfl rfl ⟨rfl,rfl,rfl,rfl,rfl⟩ rfl rfl rfl rfl rfl (by kernel_rfl) Tryz.func6 (by kernel_rfl)
  (of_decide_eq_true (by kernel_rfl)) (by unfold Func.isWrapper;first|(rw [if_pos (by decide +kernel)];kernel_rfl)|(rw [if_neg (by decide +kernel)];exact ⟨rfl,rfl⟩))
  (fun os started H enc _ F=>by rw [OpenClaim.pre_eq_preRow];exact lifted os started H enc F)
theorem plain (f : FuncId) (fn : Func) (hf : Tryz.pinned.checked.prog.funcNamed "tabard/tabardlaw04.ClassfileMakes" = some f) (hfn : Tryz.pinned.checked.prog.funcs[f]? = some fn) :
  true = Tryz.pinned.checked.prog.looks [] ∧ ∀ (j : Nat) t,fn.params[j]? = some t → Tryz.pinned.checked.prog.wantsStandIn t = false:=by
 obtain rfl : f = 6:=Option.some.inj ((show Tryz.prog.funcNamed "tabard/tabardlaw04.ClassfileMakes" = some 6 by kernel_rfl).symm.trans hf) |>.symm
 obtain rfl : fn = Tryz.f6:=(Option.some.inj (Tryz.func6.symm.trans hfn)).symm
 refine ⟨by kernel_rfl,fun j t ht=>?_⟩
 rw [Tryz.params6] at ht
 have hm:=Array.mem_of_getElem? ht
 exact (show ∀ t ∈ #[26,3,9,9,42],Tryz.prog.wantsStandIn t = false by decide +kernel) t hm
theorem card : Rows.ClassfileMakesCardSaid :=
 Claim7.holds_tied_plain_at .later [] _ _ _ _ said (fun _ h=>by cases h) (by kernel_rfl) (fun _ h=>by cases h) classfileMakes_row_tie rfl ⟨rfl,rfl⟩ (by kernel_rfl) rfl plain (by kernel_rfl)
end Go.Proofs.YtnojgiflgmnjlaaGreatDoor.lawMakes
