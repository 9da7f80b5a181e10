/- ProfileDoes is true for every script, without a condition. -/
import Derived.Test.YtfphiomhlhpphaaZE8
import Derived.Test.YtfphiomhlhpphaaRows
import Derived.ProofKit
import Derived.OpenShut
import Derived.ChangeSlices
import Derived.Deep.DeepHandedRow
import Derived.Lib.LaidTab
set_option maxRecDepth 100000
namespace Go.Proofs.Ytfphiomhlhpphaa
open Go.ChangeShapes Go.WideShapes Go.ChangeAt Go.RowKit Go.WideMaps Go.WideElems
set_option maxRecDepth 100000
section
variable {H : Type} {enc : TypeId × Value → H}
theorem weights_allT {P : Program} {e : TypeId} : ∀ {ds : List (DataW H)} {d : DataW H},d ∈ ds → (DataW.weightsAll P e ds).all (·≤ reachBytes) = true → (d.weights P e).all (·≤ reachBytes) = true
 | [],_,h,_=>by cases h
 | x :: r,d,h,hw=>by
  simp only [DataW.weightsAll,List.all_append,Bool.and_eq_true] at hw
  rcases List.mem_cons.1 h with rfl|h
  ·exact hw.1
  ·exact weights_allT h hw.2
theorem bulk_pos (d : DataW H) : 1 ≤ Rows.uptoBulk d:=by
 cases d with
 | lit l=>cases l <;> simp [Rows.uptoBulk]
 | _=>simp [Rows.uptoBulk]
theorem bulk_len : ∀ l : List (DataW H),l.length ≤ Rows.uptoBulkAll l
 | []=>by simp [Rows.uptoBulkAll]
 | x :: r=>by have h1:=bulk_pos x;have h2:=bulk_len r;simp only [Rows.uptoBulkAll,List.length_cons];omega
theorem bulk_mem : ∀ {l : List (DataW H)} {d : DataW H},d ∈ l → Rows.uptoBulk d ≤ Rows.uptoBulkAll l
 | [],_,h=>by cases h
 | x :: r,d,h=>by
  simp only [Rows.uptoBulkAll]
  rcases List.mem_cons.1 h with rfl|h
  ·omega
  ·have:=bulk_mem h;omega
theorem A.cellsInt : Try.prog.cellsOf 3 = 1:=by kernel_rfl
theorem A.cellsI64 : Try.prog.cellsOf 2 = 1:=by kernel_rfl
theorem list_cell {α : Type} {W : World} {n : Nat} {k : Value} {y : DataW H × List MemPlace} {tS tE : TypeId} {s by_ : Nat} (G : DataW H → List Value → α → Prop) (hG : ∀ d cs x,G d cs x → cs.length = s) (hs : 0 < s)
  (hu : Try.prog.underlying tS = some (.slice tE)) (hco : Try.prog.cellsOf tE = s) (hby : Try.prog.bytesOf tE = by_) (hb0 : 0 < by_)
  (he : ∀ (m : Nat) (cs : List Value) (z : DataW H × List MemPlace),DataW.trod enc Try.prog W 0 (fun _=>true) true m tE cs = some z → (z.1.weights Try.prog tE).all (·≤ reachBytes) = true → ∃ x,G z.1 cs x)
  (h : DataW.trod enc Try.prog W 0 (fun _=>true) true n tS [k] = some y) (hw : (y.1.weights Try.prog tS).all (·≤ reachBytes) = true) :
  ∃ (xs : List α) (rs : List (List Value)),rs.length = xs.length ∧ (∀ (i : Nat) (r : List Value) (x : α),rs[i]? = some r → xs[i]? = some x → ∃ d,G d r x ∧ Rows.uptoBulk d ≤ Rows.uptoBulk y.1) ∧ Kit.IsS s W k xs.length rs.flatten ∧ xs.length * by_ ≤ 140737488351232 ∧ xs.length ≤ Rows.uptoBulk y.1:=by
 rcases DataW.trod_slice hu h with ⟨hcs,rfl⟩|⟨a,len,cap,elems,rest,m,-,hcs,rfl,-,hl,hm,hel,hcells,hsp,-⟩
 ·obtain rfl : k = .slice none 0 0:=by simpa using hcs
  exact ⟨[],[],rfl,fun i r x hr=>by simp at hr,⟨by simp,by simp,.inl ⟨rfl,none,0,rfl⟩⟩,by simp,by simp⟩
 ·obtain rfl : k = .slice (some a) len cap:=by simpa using hcs
  simp only [DataW.weights,hu,List.all_cons,List.all_append,Bool.and_eq_true,decide_eq_true_eq,hby] at hw
  have hcap : len * by_ ≤ 140737488351232:=by
   have h1:=hw.1
   simp only [List.length_map,reachBytes] at h1
   rw [hel] at h1
   exact Nat.le_trans (Nat.mul_le_mul_right _ (Nat.le_add_right _ _)) h1
  have hbl : len ≤ Rows.uptoBulk (.slice (elems.map (·.1)) (rest.map (·.1)) : DataW H):=by
   have:=bulk_len (elems.map (·.1))
   rw [List.length_map,hel] at this
   simp only [Rows.uptoBulk]
   omega
  have each : ∀ i,∃ q : List Value × Option α,i < len → q.1.length = s ∧ (∀ j,j < s → W.cell? ((a.add (i * s)).add j) = q.1[j]?) ∧ ∃ x d,q.2 = some x ∧ G d q.1 x ∧ Rows.uptoBulk d ≤ Rows.uptoBulk (.slice (elems.map (·.1)) (rest.map (·.1)) : DataW H):=by
   intro i
   by_cases hi : i < len
   ·have h1:=hcells i hi
    rw [hco,List.getElem?_eq_getElem (by omega),Option.bind_eq_some_iff] at h1
    obtain ⟨cs,hcs',htr⟩:=h1
    have hmem : elems[i].1 ∈ elems.map (·.1):=List.mem_map_of_mem (List.getElem_mem _)
    obtain ⟨x,hx⟩:=he _ _ _ htr (weights_allT hmem hw.2.1)
    refine ⟨(cs,some x),fun _=>⟨hG _ _ _ hx,fun j hj=>(World.cells?_some hcs').2.2 j hj,x,_,rfl,hx,?_⟩⟩
    have:=bulk_mem hmem
    simp only [Rows.uptoBulk]
    omega
   ·exact ⟨([],none),fun h=>absurd h hi⟩
  obtain ⟨f,hfx⟩:=Classical.skolem.1 each
  have hxs : ∃ xs : List α,xs.length = len ∧ ∀ i,i < len → xs[i]? = (f i).2:=by
   have : ∀ m,m ≤ len → ∃ xs : List α,xs.length = m ∧ ∀ i,i < m → xs[i]? = (f i).2:=by
    intro m
    induction m with
    | zero=>intro _;exact ⟨[],rfl,fun i hi=>by omega⟩
    | succ m ih =>
     intro hm
     obtain ⟨xs,h1,h2⟩:=ih (by omega)
     obtain ⟨-,-,x,d,hx,-⟩:=hfx m (by omega)
     refine ⟨xs ++ [x],by simp [h1],fun i hi=>?_⟩
     by_cases e : i < m
     ·rw [List.getElem?_append_left (by omega)];exact h2 i e
     ·obtain rfl : i = m:=by omega
      rw [List.getElem?_append_right (by omega),h1,Nat.sub_self,hx]
      rfl
   exact this len (Nat.le_refl _)
  obtain ⟨xs,hxl,hxe⟩:=hxs
  have hrl : ∀ r ∈ (List.range len).map (fun i=>(f i).1),r.length = s:=by
   intro r hr
   obtain ⟨i,hi,rfl⟩:=List.mem_map.1 hr
   exact (hfx i (List.mem_range.1 hi)).1
  have hfl : ∀ (rs : List (List Value)),(∀ r ∈ rs,r.length = s) → rs.flatten.length = rs.length * s ∧ ∀ i r,rs[i]? = some r → ∀ j,j < s → rs.flatten[i * s + j]? = r[j]?:=by
   intro rs
   induction rs with
   | nil=>intro _;exact ⟨by simp,fun i r hr=>by simp at hr⟩
   | cons r0 rs ih =>
    intro hr
    obtain ⟨h1,h2⟩:=ih (fun r h=>hr r (List.mem_cons_of_mem _ h))
    have h0:=hr r0 (by simp)
    refine ⟨by rw [List.flatten_cons,List.length_append,h0,h1,List.length_cons,Nat.succ_mul];omega,fun i r hi j hj=>?_⟩
    match i,hi with
    | 0,hi =>
     simp at hi
     subst hi
     rw [List.flatten_cons,List.getElem?_append_left (by omega)]
     simp
    | i + 1,hi =>
     rw [List.flatten_cons,List.getElem?_append_right (by rw [h0,Nat.succ_mul];omega),h0,← h2 i r (by simpa using hi) j hj]
     congr 1
     rw [Nat.succ_mul]
     omega
  obtain ⟨hfl1,hfl2⟩:=hfl _ hrl
  have hrlen : ((List.range len).map (fun i=>(f i).1)).length = len:=by simp
  refine ⟨xs,(List.range len).map (fun i=>(f i).1),by rw [hrlen,hxl],fun i r x hr hx=>?_,⟨by rw [hfl1,hrlen,hxl],by rw [hxl];exact Nat.le_trans (Nat.le_trans (Nat.le_mul_of_pos_right _ hb0) hcap) (by decide),?_⟩,by rw [hxl];exact hcap,by rw [hxl];exact hbl⟩
  ·have hi : i < len:=by
    have:=(List.getElem?_eq_some_iff.1 hx).1
    omega
   obtain ⟨-,-,x',d,hx',hg,hb⟩:=hfx i hi
   rw [hxe i hi,hx'] at hx
   cases hx
   rw [List.getElem?_map,List.getElem?_range hi] at hr
   simp only [Option.map_some,Option.some.injEq] at hr
   subst hr
   exact ⟨d,hg,hb⟩
  ·by_cases h0 : len = 0
   ·exact .inl ⟨by rw [hxl,h0],some a,cap,by rw [h0]⟩
   ·obtain ⟨b,o,spot⟩:=a
    have hsp0 : ∃ u,W.cell? (((⟨b,o,spot⟩ : Addr).add (0 * s)).add 0) = some u:=by
     obtain ⟨h1,h2,-⟩:=hfx 0 (by omega)
     refine ⟨(f 0).1[0]'(by omega),?_⟩
     rw [h2 0 hs,List.getElem?_eq_getElem]
    obtain ⟨u0,hsp0⟩:=hsp0
    have hspot : spot = none:=by
     have:=World.cell?_spot hsp0
     simpa [Addr.add] using this
    subst hspot
    have hat : ∀ i j,((⟨b,o,none⟩ : Addr).add i).add j = ⟨b,o + (i + j),none⟩:=by
     intro i j
     rw [add_plain,add_plain];congr 1;omega
    refine .inr ⟨b,o,cap,by rw [hxl],by rw [hxl];exact hl,?_,fun i u hi=>?_⟩
    ·have:=World.block_lt_of_cell? W _ hsp0
     simpa [Addr.add] using this
    ·have hil : i < len * s:=by
      have:=(List.getElem?_eq_some_iff.1 hi).1
      rw [hfl1,hrlen] at this
      exact this
     have hq : i / s < len:=Nat.div_lt_of_lt_mul (by rw [Nat.mul_comm];exact hil)
     have hr : i % s < s:=Nat.mod_lt _ hs
     have e : i / s * s + i % s = i:=by rw [Nat.mul_comm];exact Nat.div_add_mod i s
     have hget : ((List.range len).map (fun i=>(f i).1))[i / s]? = some (f (i / s)).1:=by rw [List.getElem?_map,List.getElem?_range hq];rfl
     have h1:=hfl2 (i / s) _ hget (i % s) hr
     rw [e] at h1
     have h2:=(hfx (i / s) hq).2.1 (i % s) hr
     rw [hat,e] at h2
     rw [h2,← h1]
     exact hi
theorem rs_map {α : Type} {f : α → List Value} {xs : List α} {rs : List (List Value)} (hl : rs.length = xs.length) (h : ∀ (i : Nat) (r : List Value) (x : α),rs[i]? = some r → xs[i]? = some x → r = f x) : rs.flatten = xs.flatMap f:=by
 have e : rs = xs.map f:=by
  apply List.ext_getElem?
  intro i
  rw [List.getElem?_map]
  by_cases hi : i < xs.length
  ·have h1 : rs[i]? = some rs[i]:=List.getElem?_eq_getElem (by omega)
   have h2 : xs[i]? = some xs[i]:=List.getElem?_eq_getElem hi
   rw [h1,h2,h i _ _ h1 h2]
   rfl
  ·rw [List.getElem?_eq_none (by omega),List.getElem?_eq_none (by omega)]
   rfl
 rw [e,List.flatMap_def]
theorem weights_eachT {P : Program} : ∀ {ts : List TypeId} {ds : List (DataW H)} {j : Nat} {t : TypeId} {d : DataW H},ts[j]? = some t → ds[j]? = some d → (DataW.weightsEach P ts ds).all (·≤ reachBytes) = true → (d.weights P t).all (·≤ reachBytes) = true
 | [],_,_,_,_,h,_,_=>by simp at h
 | _,[],_,_,_,_,h,_=>by simp at h
 | t :: ts,d :: ds,0,_,_,h1,h2,h=>by
  simp only [List.getElem?_cons_zero,Option.some.injEq] at h1 h2
  subst h1 h2
  simp only [DataW.weightsEach,List.all_append,Bool.and_eq_true] at h
  exact h.1
 | t :: ts,d :: ds,j + 1,_,_,h1,h2,h=>by
  simp only [DataW.weightsEach,List.all_append,Bool.and_eq_true] at h
  exact weights_eachT (j:=j) (by simpa using h1) (by simpa using h2) h.2
theorem i8_of {a : Int} (h : (Lit.int .i64 a).wf = true) : I8 a:=by
 simp [Lit.wf,IntKind.min,IntKind.max,IntKind.signed,IntKind.bits] at h
 unfold I8
 omega
theorem A.cellsSite : Try.prog.cellsOf 29 = 2:=by kernel_rfl
theorem site_cells {W : World} {n : Nat} {k0 k1 : Value} {y : DataW H × List MemPlace} (h : DataW.trod enc Try.prog W 0 (fun _=>true) true n 29 [k0,k1] = some y) : ∃ x : Int × Int,k0 = .int .i64 x.1 ∧ k1 = .int .i64 x.2 ∧ TS.ok x:=by
 obtain ⟨xs,m,-,-,hl,hlen,hf⟩:=DataW.trod_struct Try.underlying29 h
 have hx2 : xs.length = 2:=hlen
 match xs,hx2 with
 | [x0,x1],_ =>
 obtain ⟨a,e0,-,w0⟩:=DataW.trod_int Try.underlying3 (hf 0 _ rfl)
 obtain ⟨b,e1,-,w1⟩:=DataW.trod_int Try.underlying3 (hf 1 _ rfl)
 have q0 : ([k0,k1].drop 0).take (Try.prog.cellsOf 3) = [.int .i64 a]:=e0
 have q1 : ([k0,k1].drop 1).take (Try.prog.cellsOf 3) = [.int .i64 b]:=e1
 rw [A.cellsInt] at q0 q1
 simp only [List.drop_zero,List.take_succ_cons,List.take_zero,List.cons.injEq,and_true,List.drop_succ_cons] at q0 q1
 exact ⟨(a,b),q0,q1,i8_of w0,i8_of w1⟩
theorem o_cells {W : World} {n : Nat} {cs : List Value} {y : DataW H × List MemPlace} (h : DataW.trod enc Try.prog W 0 (fun _=>true) true n 31 cs = some y) : ∃ x : Pf.O,cs = oL x ∧ GoodO x:=by
 obtain ⟨xs,m,-,-,hl,hlen,hf⟩:=DataW.trod_struct Try.underlying31 h
 have hl6 : cs.length = 6:=hl.trans (by kernel_rfl)
 have hx5 : xs.length = 5:=hlen
 match xs,hx5 with
 | [x0,x1,x2,x3,x4],_ =>
 match cs,hl6 with
 | [k0,k1,k2,k3,k4,k5],_ =>
 obtain ⟨a,e0,-,w0⟩:=DataW.trod_int Try.underlying3 (hf 0 _ rfl)
 obtain ⟨b,e1,-,w1⟩:=DataW.trod_int Try.underlying3 (hf 1 _ rfl)
 obtain ⟨c,e3,-,w3⟩:=DataW.trod_int Try.underlying3 (hf 3 _ rfl)
 obtain ⟨d,e4,-,w4⟩:=DataW.trod_int Try.underlying2 (hf 4 _ rfl)
 have q0 : ([k0,k1,k2,k3,k4,k5].drop 0).take (Try.prog.cellsOf 3) = [.int .i64 a]:=e0
 have q1 : ([k0,k1,k2,k3,k4,k5].drop 1).take (Try.prog.cellsOf 3) = [.int .i64 b]:=e1
 have q3 : ([k0,k1,k2,k3,k4,k5].drop 4).take (Try.prog.cellsOf 3) = [.int .i64 c]:=e3
 have q4 : ([k0,k1,k2,k3,k4,k5].drop 5).take (Try.prog.cellsOf 2) = [.int .i64 d]:=e4
 have f2 : DataW.trod enc Try.prog W 0 (fun _=>true) true m 29 (([k0,k1,k2,k3,k4,k5].drop 2).take (Try.prog.cellsOf 29)) = some x2:=hf 2 _ rfl
 rw [A.cellsInt] at q0 q1 q3
 rw [A.cellsI64] at q4
 rw [A.cellsSite] at f2
 simp only [List.drop_zero,List.take_succ_cons,List.take_zero,List.cons.injEq,and_true,List.drop_succ_cons] at q0 q1 q3 q4 f2
 obtain ⟨s,rfl,rfl,hs⟩:=site_cells f2
 subst q0 q1 q3 q4
 exact ⟨⟨a,b,s,c,d⟩,rfl,i8_of w0,i8_of w1,hs,i8_of w3,i8_of w4⟩
theorem open_os {W : World} {v : Value} {d : DataW H} {ps : List MemPlace} {base : Nat}
  (hok : Value.okWide Try.prog W .any base 22 v) (h : DataW.Trod enc Try.prog W 0 (fun _=>true) true 22 v d ps) (hw : (d.weights Try.prog 22).all (·≤ reachBytes) = true) :
  ∃ l : List Pf.O,Kit.IsS 6 W v l.length (l.flatMap oL) ∧ l.length * 48 ≤ 140737488351232 ∧ (∀ o ∈ l,GoodO o) ∧ l.length ≤ Rows.uptoBulk d:=by
 obtain ⟨a0,len,cap,rfl⟩:=okWide_slice Try.underlying22 hok
 obtain ⟨fuel,hf⟩:=h
 obtain ⟨xs,rs,h1,h2,h3,h4,h5⟩:=list_cell (s:=6) (by_:=48) (tE:=31) (fun (_ : DataW H) cs (x : Pf.O)=>cs = oL x ∧ GoodO x) (fun _ _ x h=>by rw [h.1];rfl) (by decide) Try.underlying22 (by kernel_rfl) (by kernel_rfl) (by decide) (fun m cs z hz _=>o_cells hz) (y:=(d,ps)) hf hw
 refine ⟨xs,?_,h4,fun x hx=>?_,h5⟩
 ·rw [← rs_map (f:=oL) h1 (fun i r x hr hx=>by obtain ⟨d,hd,-⟩:=h2 i r x hr hx;exact hd.1)]
  exact h3
 ·obtain ⟨i,hi⟩:=List.mem_iff_getElem?.1 hx
  have hlt : i < rs.length:=by rw [h1];exact (List.getElem?_eq_some_iff.1 hi).1
  obtain ⟨d,hd,-⟩:=h2 i _ x (List.getElem?_eq_getElem hlt) hi
  exact hd.2
end
end Go.Proofs.Ytfphiomhlhpphaa
namespace Go.Proofs.Ytfphiomhlhpphaa.Kit
open Go Go.RowKit Go.ChangeShapes Go.WideShapes Go.ChangeAt
section
variable {H : Type} {enc : TypeId × Value → H} {P : Program}
theorem trodAll_later (hl : laidOutB P = true) {W W' : World} (hb : Below W.heap.size W W') (sp : Nat → Bool) :
  ∀ {ts : List TypeId} {vs : List Value} {ds : List (DataW H)} {ps : List MemPlace},(∀ t ∈ ts,P.readableRec t = true ∧ t < P.types.size) → DataW.TrodAll enc P W 0 (fun _=>true) true ts vs ds ps →
   (∀ x ∈ ps,x.block < W.heap.size) → (∀ x ∈ ps,sp x.block = true) → DataW.TrodAll enc P W' 0 sp true ts vs ds ps
 | [],vs,ds,ps,_,h,_,_=>by
  obtain ⟨rfl,rfl,rfl⟩:=trodAll_nil h
  exact trodAll_mk0
 | t :: ts,vs,ds,ps,hr,h,hlt,hsp=>by
  obtain ⟨v,vs',d,ds',p,q,rfl,rfl,rfl,h0,h1⟩:=trodAll_cons h
  exact trodAll_cons_mk (WideElems.Trod_stays hl (hr t (by simp)).1 (hr t (by simp)).2 h0 (fun x hx=>hb.same (hlt x (by simp [hx]))) (fun x hx=>hsp x (by simp [hx])))
   (trodAll_later hl hb sp (fun t ht=>hr t (by simp [ht])) h1 (fun x hx=>hlt x (by simp [hx])) (fun x hx=>hsp x (by simp [hx])))
theorem law_post {f : Func} {s : ChangeSpec} {apart fresh handsOn again : Bool} {W W' : World} {args : Array Value} {ds gs : List (DataW H)} {before : List MemPlace} {tb : TypeId}
  (hv : s.vars = []) (hr : f.resultTypes = #[tb]) (htb : P.underlying tb = some .bool) (hl : laidOutB P = true) (hrd : ∀ t ∈ f.params.toList,P.readableRec t = true ∧ t < P.types.size)
  (hW : DataW.Whole enc P f.params.toList s.vars apart W args.toList ds gs before)
  (hfn : s.fn H (ds ++ gs) = { results:=[.lit (.bool true)],args:=ds }) (hb : Below W.heap.size W W') :
  s.post enc P f apart fresh handsOn again W args (.bool true) W':=by
 have hlt : ∀ p ∈ before,p.block < W.heap.size:=fun p hp=>hW.lt p hp
 have hW':=hW
 obtain ⟨p,q,hA,hV,rfl,hfz,hnd⟩:=hW
 rw [hv] at hV
 obtain ⟨rfl,rfl⟩:=trodVars_none hV
 simp only [List.append_nil] at hlt hfz hnd hW' hfn ⊢
 have hres : ∀ (b : Nat) (sp : Nat → Bool) (hd : Bool),DataW.TrodAll enc P W' b sp hd f.resultTypes.toList ((Value.bool true).resultList f.resultTypes.size) (s.fn H ds).results []:=by
  intro b sp hd
  rw [hr,hfn]
  exact trodAll_cons_mk (shut_bool htb _) trodAll_mk0
 have hargs : ∀ sp : Nat → Bool,(∀ x ∈ p,sp x.block = true) → DataW.TrodAll enc P W' 0 sp true f.params.toList args.toList (s.fn H ds).args p:=by
  intro sp hsp
  rw [hfn]
  exact trodAll_later hl hb sp hrd hA hlt hsp
 have hvs : ∀ sp : Nat → Bool,DataW.TrodVars enc P W' sp s.vars (s.fn H ds).vars []:=by
  intro sp
  rw [hv,hfn]
  rfl
 have hold : ∀ x ∈ p,(fun b=>decide (b < W.heap.size)) x.block = true:=fun x hx=>by simpa using hlt x hx
 refine ⟨ds,[],p,[],p,[],hW',?_,?_,?_,World.keptBut_mono (fun x hx=>⟨hx,.inr (.inl hx)⟩) (hb.frame (·∈ p)),fun _=>?_⟩
 ·rw [List.append_nil];exact hres _ _ _
 ·rw [List.append_nil];exact hargs _ hold
 ·rw [List.append_nil];exact hvs _
 ·refine ⟨ok_one hr rfl (okWide_bool_mk htb _),_,_,([] ++ p) ++ [],⟨[] ++ p,[],trodAll_append (hargs _ (fun _ _=>rfl)) (hres _ _ _),hvs _,rfl,?_,?_⟩,?_⟩
  ·intro b off hp
   have hin : MemPlace.cell b off ∈ p:=by simpa using hp
   have:=hb.frozen (p:=⟨b,off,none⟩) (hlt _ hin)
   rw [this]
   exact hfz b off hin
  ·intro ha
   simpa using hnd ha
  ·intro x hx _
   simpa using hx
end
end Go.Proofs.Ytfphiomhlhpphaa.Kit
namespace Go.Proofs.Ytfphiomhlhpphaa.profileDoesCard
open Go.ChangeShapes Go.WideShapes Go.ChangeAt Go.RowKit
theorem own : ownKnob Try.prog.godebug = none:=by kernel_rfl
theorem contract (H : Type) (enc : TypeId × Value → H) (W : World) (base : Nat) (args : Array Value) (ds gs : List (DataW H)) (before : List MemPlace)
  (hval : ∀ (j : Nat) t v,Try.f3.params[j]? = some t → args[j]? = some v → Value.okWide Try.prog W .any base t v)
  (hW : DataW.Whole enc Try.prog Try.f3.params.toList Rows.profileDoesSpec.vars false W args.toList ds gs before)
  (hsz : (DataW.weightsEach Try.prog (Try.f3.params.toList ++ (OpenSpec.ofChange Rows.profileDoesSpec).bare.plain.varTypes Try.prog) (ds ++ gs)).all (·≤ reachBytes) = true) :
  Calls Try.prog 3 args W fun e W'=>∃ v,e = .returned v ∧ Rows.profileDoesSpec.post enc Try.prog Try.f3 false true false false W args v W':=by
 have hW':=hW
 obtain ⟨p,q,hA0,hV,rfl,hfz,hnd⟩:=hW
 have hA : DataW.TrodAll enc Try.prog W 0 (fun _=>true) true Try.f3.params.toList args.toList ds p:=hA0
 rw [Try.params3] at hA hval hsz
 obtain ⟨v0,vs0,d0,ds0,p0,q0,hargs,rfl,rfl,h0,r0⟩:=trodAll_cons hA
 obtain ⟨rfl,rfl,rfl⟩:=trodAll_nil r0
 obtain rfl : args = #[v0]:=by cases args;simp_all
 obtain ⟨rfl,rfl⟩:=trodVars_none hV
 obtain ⟨x0,wx0,wn0,wg0,wb0⟩:=open_os (hval 0 22 v0 rfl rfl) h0 (weights_eachT (j:=0) (t:=22) (d:=d0) rfl rfl hsz)
 refine (does_law x0 _ W wx0 wg0 (by omega)).mono fun e W' ⟨he,hb⟩=>?_
 subst he
 exact ⟨_,rfl,Kit.law_post rfl rfl Try.underlying4 (by kernel_rfl) (by decide +kernel) hW' rfl hb⟩
theorem reads (os : Os) {H : Type} (enc : TypeId × Value → H) : ∃ places,DataW.whole enc Try.prog ((World.holding Try.prog os ⟨#[],#[],[]⟩).forCall (fun _ _=>0) ⟨#[],#[.slice none 0 0],[]⟩).memory Try.f3.params.toList Rows.profileDoesSpec.vars false (#[.slice none 0 0] : Array Value).toList 8 = some ([.nil],[],places) :=
 ⟨[],by kernel_rfl⟩
theorem laid_met (os : Os) : laidMet Try.prog Rows.profileDoesRow.laid ((World.holding Try.prog os ⟨#[],#[],[]⟩).forCall (fun _ _=>0) ⟨#[],#[.slice none 0 0],[]⟩).memory :=
 laidMet_of_run' 8 (by kernel_rfl) (by kernel_rfl)
theorem lifted (os : Os) (started : os.Started) (H : Type) (enc : TypeId × Value → H) (F : Stop.Interp) :
  ReturnsInHanded {} Try.checked os 3 .any ((OpenSpec.ofChange Rows.profileDoesSpec).preRow enc Try.prog Try.f3 Rows.profileDoesRow.domain false Rows.profileDoesRow.laid) (((OpenSpec.ofChange Rows.profileDoesSpec).at F).post enc Try.prog Try.f3 false true false false):=by
 obtain ⟨places,hx⟩:=reads os enc
 refine returnsInHanded_of_row (C:=Try.checked) (s:=(OpenSpec.ofChange Rows.profileDoesSpec)) own started (by kernel_rfl) Try.func3
  (witness_row_at (enc:=enc) (C:=Try.checked) false (World.holding Try.prog os ⟨#[],#[],[]⟩) #[.slice none 0 0] rfl (by kernel_rfl) (by kernel_rfl) (by kernel_rfl)
   (OpenSpec.preRow_of_cond 8 hx (by kernel_rfl) (fun k hk=>by cases hk) (by kernel_rfl) (laid_met os))) ?_
 intro W base args ds gs before hval hW _ _ hsz _ _ _
 exact contract H enc W base args ds gs before hval hW hsz
theorem proved : Rows.ProfileDoesSaid :=
 OpenClaim.holds_of_cond 3 Try.f3 rfl rfl rfl rfl rfl rfl rfl ⟨rfl,rfl,rfl,rfl,rfl⟩ rfl rfl rfl rfl rfl (by kernel_rfl) Try.func3 (by kernel_rfl)
  (of_decide_eq_true (by kernel_rfl)) (by unfold Func.isWrapper;first|(rw [if_pos (by decide +kernel)];kernel_rfl)|(rw [if_neg (by decide +kernel)];exact ⟨rfl,rfl⟩))
  (fun os started H enc _ F=>by rw [OpenClaim.pre_eq_preRow];exact lifted os started H enc F)
end Go.Proofs.Ytfphiomhlhpphaa.profileDoesCard
