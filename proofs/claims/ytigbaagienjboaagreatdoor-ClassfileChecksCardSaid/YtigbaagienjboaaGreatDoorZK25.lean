/- ClassfileChecks is true for every class, as long as the listed tables of packages opcode and cpool hold what the text of the program lays there (the card ties it). -/
import Derived.Test.YtigbaagienjboaaGreatDoorZK24
set_option maxRecDepth 100000
namespace Go.Proofs.YtigbaagienjboaaGreatDoor
open Go.ChangeShapes Go.WideShapes Go.ChangeAt Go.RowKit Go.WideMaps Go.WideElems
set_option maxRecDepth 100000
section
variable {H : Type} {enc : TypeId × Value → H}
theorem rs_map {α : Type} {f : α → List Value} {xs : List α} {rs : List (List Value)} (hl : rs.length = xs.length) (h : ∀ (i : Nat) (r : List Value) (x : α),rs[i]? = some r → xs[i]? = some x → r = f x) : rs.flatten = xs.flatMap f:=by
 have e : rs = xs.map f:=by
  apply List.ext_getElem?
  intro i
  rw [List.getElem?_map]
  by_cases hi : i < xs.length
  ·have h1 : rs[i]? = some rs[i]:=List.getElem?_eq_getElem (by omega)
   have h2 : xs[i]? = some xs[i]:=List.getElem?_eq_getElem hi
   rw [h1,h2,h i _ _ h1 h2]
   rfl
  ·rw [List.getElem?_eq_none (by omega),List.getElem?_eq_none (by omega)]
   rfl
 rw [e,List.flatMap_def]
theorem hn_cells {W : World} {n : Nat} {cs : List Value} {y : DataW H × List MemPlace} (h : DataW.trod enc Tryz.prog W 0 (fun _=>true) true n 58 cs = some y) : ∃ x : Cf.Hn,cs = hL x:=by
 obtain ⟨xs,m,-,hy,hl,hlen,hf⟩:=DataW.trod_struct Tryz.underlying58 h
 have hl4 : cs.length = 4:=hl.trans (by kernel_rfl)
 have hx4 : xs.length = 4:=hlen
 match xs,hx4 with
 | [x0,x1,x2,x3],_ =>
 match cs,hl4 with
 | [k0,k1,k2,k3],_ =>
 obtain ⟨a,e0,-,-⟩:=DataW.trod_int Tryz.underlying3 (hf 0 _ rfl)
 obtain ⟨b,e1,-,-⟩:=DataW.trod_int Tryz.underlying3 (hf 1 _ rfl)
 obtain ⟨c,e2,-,-⟩:=DataW.trod_int Tryz.underlying3 (hf 2 _ rfl)
 obtain ⟨d,e3,-,-⟩:=DataW.trod_int Tryz.underlying3 (hf 3 _ rfl)
 have q0 : ([k0,k1,k2,k3].drop 0).take (Tryz.prog.cellsOf 3) = [.int .i64 a]:=e0
 have q1 : ([k0,k1,k2,k3].drop 1).take (Tryz.prog.cellsOf 3) = [.int .i64 b]:=e1
 have q2 : ([k0,k1,k2,k3].drop 2).take (Tryz.prog.cellsOf 3) = [.int .i64 c]:=e2
 have q3 : ([k0,k1,k2,k3].drop 3).take (Tryz.prog.cellsOf 3) = [.int .i64 d]:=e3
 rw [A.cellsInt] at q0 q1 q2 q3
 simp only [List.drop_zero,List.take_succ_cons,List.take_zero,List.cons.injEq,and_true,List.drop_succ_cons] at q0 q1 q2 q3
 subst q0 q1 q2 q3
 exact ⟨⟨a,b,c,d⟩,rfl⟩
theorem hs_cell {W : World} {n : Nat} {k : Value} {y : DataW H × List MemPlace} (h : DataW.trod enc Tryz.prog W 0 (fun _=>true) true n 40 [k] = some y) (hw : (y.1.weights Tryz.prog 40).all (·≤ reachBytes) = true) :
  ∃ hs : List Cf.Hn,Kit.IsS 4 W k hs.length (hs.flatMap hL) ∧ hs.length * 32 ≤ 140737488351232 ∧ hs.length ≤ Rows.uptoBulk y.1:=by
 obtain ⟨xs,rs,h1,h2,h3,h4,h5⟩:=list_cell (s:=4) (by_:=32) (tE:=58) (fun (_ : DataW H) cs (x : Cf.Hn)=>cs = hL x) (fun _ _ x h=>by rw [h];rfl) (by decide) Tryz.underlying40 (by kernel_rfl) (by kernel_rfl) (by decide) (fun m cs z hz _=>hn_cells hz) h hw
 refine ⟨xs,?_,h4,h5⟩
 rw [← rs_map h1 (fun i r x hr hx=>by obtain ⟨d,hd,-⟩:=h2 i r x hr hx;exact hd)]
 exact h3
theorem A.cellsBs : Tryz.prog.cellsOf 22 = 1:=by kernel_rfl
theorem A.cellsHs : Tryz.prog.cellsOf 40 = 1:=by kernel_rfl
structure GoodM (m : Cf.Mb) (B : Nat) : Prop where
 ac : L3.I6 m.ac
 hs : m.hs.length * 32 ≤ 140737488351232
 cb : m.code.length ≤ B
 hb : m.hs.length ≤ B
theorem mb_cells {W : World} {n : Nat} {cs : List Value} {y : DataW H × List MemPlace} (h : DataW.trod enc Tryz.prog W 0 (fun _=>true) true n 42 cs = some y) (hw : (y.1.weights Tryz.prog 42).all (·≤ reachBytes) = true) :
  ∃ m : Cf.Mb,MbR W cs m ∧ GoodM m (Rows.uptoBulk y.1):=by
 obtain ⟨xs,m,-,hy,hl,hlen,hf⟩:=DataW.trod_struct Tryz.underlying42 h
 have hl7 : cs.length = 7:=hl.trans (by kernel_rfl)
 have hx7 : xs.length = 7:=hlen
 match xs,hx7 with
 | [x0,x1,x2,x3,x4,x5,x6],_ =>
 match cs,hl7 with
 | [k0,k1,k2,k3,k4,k5,k6],_ =>
 obtain ⟨a,e0,g0,w0⟩:=DataW.trod_int Tryz.underlying3 (hf 0 _ rfl)
 obtain ⟨b,e1,g1,-⟩:=DataW.trod_int Tryz.underlying3 (hf 1 _ rfl)
 obtain ⟨c,e2,g2,-⟩:=DataW.trod_int Tryz.underlying3 (hf 2 _ rfl)
 obtain ⟨d,e3,g3,-⟩:=DataW.trod_int Tryz.underlying3 (hf 3 _ rfl)
 obtain ⟨e,e4,g4,-⟩:=DataW.trod_int Tryz.underlying3 (hf 4 _ rfl)
 have q0 : ([k0,k1,k2,k3,k4,k5,k6].drop 0).take (Tryz.prog.cellsOf 3) = [.int .i64 a]:=e0
 have q1 : ([k0,k1,k2,k3,k4,k5,k6].drop 1).take (Tryz.prog.cellsOf 3) = [.int .i64 b]:=e1
 have q2 : ([k0,k1,k2,k3,k4,k5,k6].drop 2).take (Tryz.prog.cellsOf 3) = [.int .i64 c]:=e2
 have q3 : ([k0,k1,k2,k3,k4,k5,k6].drop 3).take (Tryz.prog.cellsOf 3) = [.int .i64 d]:=e3
 have q4 : ([k0,k1,k2,k3,k4,k5,k6].drop 4).take (Tryz.prog.cellsOf 3) = [.int .i64 e]:=e4
 have f5 : DataW.trod enc Tryz.prog W 0 (fun _=>true) true m 22 (([k0,k1,k2,k3,k4,k5,k6].drop 5).take (Tryz.prog.cellsOf 22)) = some x5:=hf 5 _ rfl
 have f6 : DataW.trod enc Tryz.prog W 0 (fun _=>true) true m 40 (([k0,k1,k2,k3,k4,k5,k6].drop 6).take (Tryz.prog.cellsOf 40)) = some x6:=hf 6 _ rfl
 rw [A.cellsInt] at q0 q1 q2 q3 q4
 rw [A.cellsBs] at f5
 rw [A.cellsHs] at f6
 simp only [List.drop_zero,List.take_succ_cons,List.take_zero,List.cons.injEq,and_true,List.drop_succ_cons] at q0 q1 q2 q3 q4 f5 f6
 subst q0 q1 q2 q3 q4
 subst hy
 simp only [DataW.weights,Tryz.underlying42,List.map_cons,List.map_nil,DataW.weightsEach,List.all_append,Bool.and_eq_true] at hw
 obtain ⟨bs,hb1,hb2,hb3⟩:=bs_cell f5 (by simp_all)
 obtain ⟨hs,hh1,hh2,hh3⟩:=hs_cell f6 (by simp_all)
 refine ⟨⟨a,b,c,d,e,bs,hs⟩,⟨k5,k6,rfl,hb1,hh1,by show bs.length ≤ _;omega⟩,⟨i6_wf w0,hh2,?_,?_⟩⟩
 ·show bs.length ≤ _
  simp only [Rows.uptoBulk,Rows.uptoBulkAll,List.map_cons,List.map_nil]
  omega
 ·show hs.length ≤ _
  simp only [Rows.uptoBulk,Rows.uptoBulkAll,List.map_cons,List.map_nil]
  omega
theorem msC_of {W : World} : ∀ {rs : List (List Value)} {ms : List Cf.Mb},rs.length = ms.length → (∀ (i : Nat) (r : List Value) (m : Cf.Mb),rs[i]? = some r → ms[i]? = some m → MbR W r m) → MsC W rs ms
 | [],[],_,_=>trivial
 | r :: rs,m :: ms,hl,h=>⟨h 0 r m rfl rfl,msC_of (by simpa using hl) fun i x y hx hy=>h (i + 1) x y (by simpa using hx) (by simpa using hy)⟩
 | [],_ :: _,hl,_=>by simp at hl
 | _ :: _,[],hl,_=>by simp at hl
theorem ms_cell {W : World} {n : Nat} {k : Value} {y : DataW H × List MemPlace} (h : DataW.trod enc Tryz.prog W 0 (fun _=>true) true n 24 [k] = some y) (hw : (y.1.weights Tryz.prog 24).all (·≤ reachBytes) = true) :
  ∃ ms : List Cf.Mb,MsR W k ms ∧ (∀ m ∈ ms,GoodM m (Rows.uptoBulk y.1)) ∧ ms.length * 88 ≤ 140737488351232 ∧ ms.length ≤ Rows.uptoBulk y.1:=by
 obtain ⟨xs,rs,h1,h2,h3,h4,h5⟩:=list_cell (s:=7) (by_:=88) (tE:=42) (fun (d : DataW H) cs (m : Cf.Mb)=>MbR W cs m ∧ GoodM m (Rows.uptoBulk d)) (fun _ _ x h=>h.1.len) (by decide) Tryz.underlying24 (by kernel_rfl) (by kernel_rfl) (by decide) (fun m cs z hz hw=>mb_cells hz hw) h hw
 refine ⟨xs,⟨rs,msC_of h1 fun i r x hr hx=>?_,h3⟩,fun m hm=>?_,h4,h5⟩
 ·obtain ⟨d,hd,-⟩:=h2 i r x hr hx
  exact hd.1
 ·obtain ⟨i,hi⟩:=List.mem_iff_getElem?.1 hm
  have hlt : i < rs.length:=by rw [h1];exact (List.getElem?_eq_some_iff.1 hi).1
  obtain ⟨d,hd,hb⟩:=h2 i _ m (List.getElem?_eq_getElem hlt) hi
  exact ⟨hd.2.ac,hd.2.hs,Nat.le_trans hd.2.cb hb,Nat.le_trans hd.2.hb hb⟩
end
end Go.Proofs.YtigbaagienjboaaGreatDoor
namespace Go.Proofs.YtigbaagienjboaaGreatDoor
open Go.ChangeShapes Go.WideShapes Go.ChangeAt Go.RowKit Go.WideMaps Go.WideElems
set_option maxRecDepth 100000
section
variable {H : Type} {enc : TypeId × Value → H}
structure GoodC (c : L3.Cp.C) : Prop where
 s : c.s.size ≤ 140737488351232
 n : L3.I6 c.n
theorem c_cells {W : World} {n : Nat} {cs : List Value} {y : DataW H × List MemPlace} (h : DataW.trod enc Tryz.prog W 0 (fun _=>true) true n 56 cs = some y) (hw : (y.1.weights Tryz.prog 56).all (·≤ reachBytes) = true) :
  ∃ c : L3.Cp.C,cs = L3.cL c ∧ GoodC c:=by
 obtain ⟨xs,m,-,hy,hl,hlen,hf⟩:=DataW.trod_struct Tryz.underlying56 h
 have hl5 : cs.length = 5:=hl.trans (by kernel_rfl)
 have hx5 : xs.length = 5:=hlen
 match xs,hx5 with
 | [x0,x1,x2,x3,x4],_ =>
 match cs,hl5 with
 | [k0,k1,k2,k3,k4],_ =>
 obtain ⟨t,e0,g0,w0⟩:=DataW.trod_int Tryz.underlying3 (hf 0 _ rfl)
 obtain ⟨s,e1,g1,-⟩:=DataW.trod_string Tryz.underlying9 (hf 1 _ rfl)
 obtain ⟨nn,e2,g2,w2⟩:=DataW.trod_int Tryz.underlying2 (hf 2 _ rfl)
 obtain ⟨a,e3,g3,w3⟩:=DataW.trod_int Tryz.underlying3 (hf 3 _ rfl)
 obtain ⟨b,e4,g4,w4⟩:=DataW.trod_int Tryz.underlying3 (hf 4 _ rfl)
 have q0 : ([k0,k1,k2,k3,k4].drop 0).take (Tryz.prog.cellsOf 3) = [.int .i64 t]:=e0
 have q1 : ([k0,k1,k2,k3,k4].drop 1).take (Tryz.prog.cellsOf 9) = [.string s]:=e1
 have q2 : ([k0,k1,k2,k3,k4].drop 2).take (Tryz.prog.cellsOf 2) = [.int .i64 nn]:=e2
 have q3 : ([k0,k1,k2,k3,k4].drop 3).take (Tryz.prog.cellsOf 3) = [.int .i64 a]:=e3
 have q4 : ([k0,k1,k2,k3,k4].drop 4).take (Tryz.prog.cellsOf 3) = [.int .i64 b]:=e4
 clear e0 e1 e2 e3 e4 hf
 rw [A.cellsInt] at q0 q3 q4
 rw [A.cellsStr] at q1
 rw [A.cellsI64] at q2
 simp only [List.drop_zero,List.take_succ_cons,List.take_zero,List.cons.injEq,and_true,List.drop_succ_cons] at q0 q1 q2 q3 q4
 subst q0 q1 q2 q3 q4
 subst g0 g1 g2 g3 g4 hy
 refine ⟨⟨t,s,nn,a,b⟩,rfl,?_,i6_wf w2⟩
 simp [DataW.weights,Tryz.underlying56,DataW.weightsEach,reachBytes] at hw
 exact of_decide_eq_true hw
theorem cs_cell {W : World} {n : Nat} {k : Value} {y : DataW H × List MemPlace} (h : DataW.trod enc Tryz.prog W 0 (fun _=>true) true n 23 [k] = some y) (hw : (y.1.weights Tryz.prog 23).all (·≤ reachBytes) = true) :
  ∃ l : List L3.Cp.C,Kit.IsS 5 W k l.length (l.flatMap L3.cL) ∧ (∀ c ∈ l,GoodC c) ∧ l.length * 48 ≤ 140737488351232 ∧ l.length ≤ Rows.uptoBulk y.1:=by
 obtain ⟨xs,rs,h1,h2,h3,h4,h5⟩:=list_cell (s:=5) (by_:=48) (tE:=56) (fun (_ : DataW H) cs (x : L3.Cp.C)=>cs = L3.cL x ∧ GoodC x) (fun _ _ x h=>by rw [h.1];rfl) (by decide) Tryz.underlying23 (by kernel_rfl) (by kernel_rfl) (by decide) (fun m cs z hz hw=>c_cells hz hw) h hw
 refine ⟨xs,?_,fun c hc=>?_,h4,h5⟩
 ·rw [← rs_map h1 (fun i r x hr hx=>by obtain ⟨d,hd,-⟩:=h2 i r x hr hx;exact hd.1)]
  exact h3
 ·obtain ⟨i,hi⟩:=List.mem_iff_getElem?.1 hc
  have hlt : i < rs.length:=by rw [h1];exact (List.getElem?_eq_some_iff.1 hi).1
  obtain ⟨d,hd,-⟩:=h2 i _ c (List.getElem?_eq_getElem hlt) hi
  exact hd.2
theorem A.cellsCs : Tryz.prog.cellsOf 23 = 1:=by kernel_rfl
theorem A.cellsMs : Tryz.prog.cellsOf 24 = 1:=by kernel_rfl
structure GoodCl (c : Cf.Cl) (B : Nat) : Prop where
 ac : L3.I6 c.ac
 pl : c.pool.length * 48 ≤ 140737488351232
 ps : ∀ x ∈ c.pool,GoodC x
 fl : c.fs.length * 88 ≤ 140737488351232
 ml : c.ms.length * 88 ≤ 140737488351232
 fs : ∀ m ∈ c.fs,GoodM m B
 ms : ∀ m ∈ c.ms,GoodM m B
 pB : c.pool.length ≤ B
 fB : c.fs.length ≤ B
 mB : c.ms.length ≤ B
theorem open_class {W : World} {base : Nat} {v : Value} {d : DataW H} {p : List MemPlace} (hv : Value.okWide Tryz.prog W .any base 26 v) (h : DataW.Trod enc Tryz.prog W 0 (fun _=>true) true 26 v d p) (hw : (d.weights Tryz.prog 26).all (·≤ reachBytes) = true) :
  ∃ (c : Cf.Cl) (vs : Array Value),v = .agg vs ∧ ClR W vs c ∧ GoodCl c (Rows.uptoBulk d):=by
 obtain ⟨cs,rfl,hsz⟩:=okWide_struct Tryz.underlying26 hv
 obtain ⟨fuel,hf0⟩:=h
 obtain ⟨xs,m,-,hy,hl,hlen,hf⟩:=DataW.trod_struct Tryz.underlying26 hf0
 obtain ⟨cs⟩:=cs
 have hl8 : cs.length = 8:=hl.trans (by kernel_rfl)
 have hx8 : xs.length = 8:=hlen
 match xs,hx8 with
 | [x0,x1,x2,x3,x4,x5,x6,x7],_ =>
 match cs,hl8 with
 | [k0,k1,k2,k3,k4,k5,k6,k7],_ =>
 obtain ⟨a0,e0,g0,w0⟩:=DataW.trod_int Tryz.underlying3 (hf 0 _ rfl)
 obtain ⟨a1,e1,g1,w1⟩:=DataW.trod_int Tryz.underlying3 (hf 1 _ rfl)
 obtain ⟨a3,e3,g3,w3⟩:=DataW.trod_int Tryz.underlying3 (hf 3 _ rfl)
 obtain ⟨a4,e4,g4,w4⟩:=DataW.trod_int Tryz.underlying3 (hf 4 _ rfl)
 obtain ⟨a5,e5,g5,w5⟩:=DataW.trod_int Tryz.underlying3 (hf 5 _ rfl)
 have q0 : ([k0,k1,k2,k3,k4,k5,k6,k7].drop 0).take (Tryz.prog.cellsOf 3) = [.int .i64 a0]:=e0
 have q1 : ([k0,k1,k2,k3,k4,k5,k6,k7].drop 1).take (Tryz.prog.cellsOf 3) = [.int .i64 a1]:=e1
 have q3 : ([k0,k1,k2,k3,k4,k5,k6,k7].drop 3).take (Tryz.prog.cellsOf 3) = [.int .i64 a3]:=e3
 have q4 : ([k0,k1,k2,k3,k4,k5,k6,k7].drop 4).take (Tryz.prog.cellsOf 3) = [.int .i64 a4]:=e4
 have q5 : ([k0,k1,k2,k3,k4,k5,k6,k7].drop 5).take (Tryz.prog.cellsOf 3) = [.int .i64 a5]:=e5
 have f2 : DataW.trod enc Tryz.prog W 0 (fun _=>true) true m 23 (([k0,k1,k2,k3,k4,k5,k6,k7].drop 2).take (Tryz.prog.cellsOf 23)) = some x2:=hf 2 _ rfl
 have f6 : DataW.trod enc Tryz.prog W 0 (fun _=>true) true m 24 (([k0,k1,k2,k3,k4,k5,k6,k7].drop 6).take (Tryz.prog.cellsOf 24)) = some x6:=hf 6 _ rfl
 have f7 : DataW.trod enc Tryz.prog W 0 (fun _=>true) true m 24 (([k0,k1,k2,k3,k4,k5,k6,k7].drop 7).take (Tryz.prog.cellsOf 24)) = some x7:=hf 7 _ rfl
 rw [A.cellsInt] at q0 q1 q3 q4 q5
 rw [A.cellsCs] at f2
 rw [A.cellsMs] at f6 f7
 simp only [List.drop_zero,List.take_succ_cons,List.take_zero,List.cons.injEq,and_true,List.drop_succ_cons] at q0 q1 q3 q4 q5 f2 f6 f7
 subst q0 q1 q3 q4 q5
 obtain ⟨rfl,-⟩:=Prod.mk.inj hy
 simp only [DataW.weights,Tryz.underlying26,List.map_cons,List.map_nil,DataW.weightsEach,List.all_append,Bool.and_eq_true] at hw
 obtain ⟨P,hp1,hp2,hp3,hp4⟩:=cs_cell f2 (by simp_all)
 obtain ⟨fs,hf1,hf2,hf3,hf4⟩:=ms_cell f6 (by simp_all)
 obtain ⟨ms,hm1,hm2,hm3,hm4⟩:=ms_cell f7 (by simp_all)
 have hB : Rows.uptoBulk x2.1 ≤ Rows.uptoBulk (.agg ([x0,x1,x2,x3,x4,x5,x6,x7].map (·.1)) : DataW H) ∧ Rows.uptoBulk x6.1 ≤ Rows.uptoBulk (.agg ([x0,x1,x2,x3,x4,x5,x6,x7].map (·.1)) : DataW H) ∧ Rows.uptoBulk x7.1 ≤ Rows.uptoBulk (.agg ([x0,x1,x2,x3,x4,x5,x6,x7].map (·.1)) : DataW H):=by
  simp only [Rows.uptoBulk,Rows.uptoBulkAll,List.map_cons,List.map_nil]
  omega
 refine ⟨⟨a0,a1,P,a3,a4,a5,fs,ms⟩,_,rfl,⟨k2,k6,k7,rfl,hp1,hf1,hm1⟩,⟨i6_wf w3,hp3,hp2,hf3,hm3,fun m hm=>?_,fun m hm=>?_,Nat.le_trans hp4 hB.1,Nat.le_trans hf4 hB.2.1,Nat.le_trans hm4 hB.2.2⟩⟩
 ·have g:=hf2 m hm
  exact ⟨g.ac,g.hs,Nat.le_trans g.cb hB.2.1,Nat.le_trans g.hb hB.2.1⟩
 ·have g:=hm2 m hm
  exact ⟨g.ac,g.hs,Nat.le_trans g.cb hB.2.2,Nat.le_trans g.hb hB.2.2⟩
end
end Go.Proofs.YtigbaagienjboaaGreatDoor
namespace Go.Proofs.YtigbaagienjboaaGreatDoor.lawChecks
open Go.ChangeShapes Go.WideShapes Go.ChangeAt Go.RowKit Go.WideMaps Go.WideElems
open Go.ChangeMaps (setBlock shut_map_nil open_string shut_string keptBut_setBlock frozen?_setBlock heap_setBlock_same)
theorem contract (H : Type) (enc : TypeId × Value → H) (W : World) (base : Nat) (args : Array Value) (ds gs : List (DataW H)) (before : List MemPlace)
  (hval : ∀ (j : Nat) t v,Tryz.f4.params[j]? = some t → args[j]? = some v → Value.okWide Tryz.prog W .any base t v)
  (hW : DataW.Whole enc Tryz.prog Tryz.f4.params.toList Rows.classfileChecksSpec.vars false W args.toList ds gs before)
  (hsz : (DataW.weightsEach Tryz.prog (Tryz.f4.params.toList ++ (OpenSpec.ofChange Rows.classfileChecksSpec).bare.plain.varTypes Tryz.prog) (ds ++ gs)).all (·≤ reachBytes) = true)
  (hL : laidMetH Tryz.prog Rows.classfileChecksRow.laid W) :
  Calls Tryz.prog 4 args W fun e W'=>∃ v,e = .returned v ∧ Rows.classfileChecksSpec.post enc Tryz.prog Tryz.f4 false true false false W args v W':=by
 have hW':=hW
 obtain ⟨p,q,hA0,hV,rfl,hfz,hnd⟩:=hW
 have hA : DataW.TrodAll enc Tryz.prog W 0 (fun _=>true) true Tryz.f4.params.toList args.toList ds p:=hA0
 rw [Tryz.params4] at hA hval hsz
 obtain ⟨v0,vs0,d0,ds0,p0,q0,hargs,rfl,rfl,h0,r0⟩:=trodAll_cons hA
 obtain ⟨rfl,rfl,rfl⟩:=trodAll_nil r0
 obtain rfl : args = #[v0]:=by cases args;simp_all
 obtain ⟨rfl,rfl⟩:=trodVars_none hV
 obtain ⟨x0,y0,rfl,wx0,wg0⟩:=open_class (hval 0 26 v0 rfl rfl) h0 (weights_eachT (j:=0) (t:=26) (d:=d0) rfl rfl hsz)
 refine (checks_law x0 _ W (tabs1_of_laid hL) (tabs3_of_laid hL) wx0 ⟨by have:=wg0.pl;omega,fun c hc=>Nat.le_trans (wg0.ps c hc).s (by decide)⟩ (fun c hc=>⟨Nat.le_trans (wg0.ps c hc).s (by decide),(wg0.ps c hc).n⟩) (fun W1 k=>rencode_any x0 _ W1 (wx0.below k (Nat.le_refl _)) (fun c hc=>⟨Nat.le_trans (wg0.ps c hc).s (by decide),(wg0.ps c hc).n⟩))).mono fun e W' ⟨he,hb⟩=>?_
 subst he
 exact ⟨_,rfl,Kit.law_post rfl rfl Tryz.underlying4 (by kernel_rfl) (by decide +kernel) hW' rfl hb⟩
theorem reads (os : Os) {H : Type} (enc : TypeId × Value → H) : ∃ places,DataW.whole enc Tryz.prog ((laidWorld os).forCall (fun _ _=>0) ⟨#[],#[.agg #[.int .i64 0,.int .i64 0,.slice none 0 0,.int .i64 0,.int .i64 0,.int .i64 0,.slice none 0 0,.slice none 0 0]],[]⟩).memory Tryz.f4.params.toList Rows.classfileChecksSpec.vars false (#[.agg #[.int .i64 0,.int .i64 0,.slice none 0 0,.int .i64 0,.int .i64 0,.int .i64 0,.slice none 0 0,.slice none 0 0]] : Array Value).toList 8 = some ([.agg [.lit (.int .i64 0),.lit (.int .i64 0),.nil,.lit (.int .i64 0),.lit (.int .i64 0),.lit (.int .i64 0),.nil,.nil]],[],places) :=
 ⟨[],by kernel_rfl⟩
theorem laid_met (os : Os) : laidMet Tryz.prog Rows.classfileChecksRow.laid ((laidWorld os).forCall (fun _ _=>0) ⟨#[],#[.agg #[.int .i64 0,.int .i64 0,.slice none 0 0,.int .i64 0,.int .i64 0,.int .i64 0,.slice none 0 0,.slice none 0 0]],[]⟩).memory :=
 laidMet_of_run' 8 (by kernel_rfl) (by kernel_rfl)
theorem lifted (os : Os) (started : os.Started) (H : Type) (enc : TypeId × Value → H) (F : Stop.Interp) :
  ReturnsInHanded {} Tryz.checked os 4 .any ((OpenSpec.ofChange Rows.classfileChecksSpec).preRow enc Tryz.prog Tryz.f4 Rows.classfileChecksRow.domain false Rows.classfileChecksRow.laid) (((OpenSpec.ofChange Rows.classfileChecksSpec).at F).post enc Tryz.prog Tryz.f4 false true false false):=by
 obtain ⟨places,hx⟩:=reads os enc
 refine returnsInHanded_of_row (C:=Tryz.checked) (s:=(OpenSpec.ofChange Rows.classfileChecksSpec)) own started (by kernel_rfl) Tryz.func4
  (witness_row_at (enc:=enc) (C:=Tryz.checked) false (laidWorld os) #[.agg #[.int .i64 0,.int .i64 0,.slice none 0 0,.int .i64 0,.int .i64 0,.int .i64 0,.slice none 0 0,.slice none 0 0]] rfl (by kernel_rfl) (by kernel_rfl) (by kernel_rfl)
   (OpenSpec.preRow_of_cond 8 hx (by kernel_rfl) (fun k hk=>by cases hk) (by kernel_rfl) (laid_met os))) ?_
 intro W base args ds gs before hval hW _ _ hsz hL _ _
 exact contract H enc W base args ds gs before hval hW hsz hL
theorem said : Rows.ClassfileChecksSaid :=
 OpenClaim.holds_of_cond 4 Tryz.f4 rfl rfl rfl rfl rfl rfl rfl ⟨rfl,rfl,rfl,rfl,rfl⟩ rfl rfl rfl rfl rfl (by kernel_rfl) Tryz.func4 (by kernel_rfl)
  (of_decide_eq_true (by kernel_rfl)) (by unfold Func.isWrapper;first|(rw [if_pos (by decide +kernel)];kernel_rfl)|(rw [if_neg (by decide +kernel)];exact ⟨rfl,rfl⟩))
  (fun os started H enc _ F=>by rw [OpenClaim.pre_eq_preRow];exact lifted os started H enc F)
theorem plain (f : FuncId) (fn : Func) (hf : Tryz.pinned.checked.prog.funcNamed "tabard/tabardlaw04.ClassfileChecks" = some f) (hfn : Tryz.pinned.checked.prog.funcs[f]? = some fn) :
  true = Tryz.pinned.checked.prog.looks [] ∧ ∀ (j : Nat) t,fn.params[j]? = some t → Tryz.pinned.checked.prog.wantsStandIn t = false:=by
 obtain rfl : f = 4:=Option.some.inj ((show Tryz.prog.funcNamed "tabard/tabardlaw04.ClassfileChecks" = some 4 by kernel_rfl).symm.trans hf) |>.symm
 obtain rfl : fn = Tryz.f4:=(Option.some.inj (Tryz.func4.symm.trans hfn)).symm
 refine ⟨by kernel_rfl,fun j t ht=>?_⟩
 rw [Tryz.params4] at ht
 have hm:=Array.mem_of_getElem? ht
 exact (show ∀ t ∈ #[26],Tryz.prog.wantsStandIn t = false by decide +kernel) t hm
theorem card : Rows.ClassfileChecksCardSaid :=
 Claim7.holds_tied_plain_at .later [] _ _ _ _ said (fun _ h=>by cases h) (by kernel_rfl) (fun _ h=>by cases h) classfileChecks_row_tie rfl ⟨rfl,rfl⟩ (by kernel_rfl) rfl plain (by kernel_rfl)
end Go.Proofs.YtigbaagienjboaaGreatDoor.lawChecks
