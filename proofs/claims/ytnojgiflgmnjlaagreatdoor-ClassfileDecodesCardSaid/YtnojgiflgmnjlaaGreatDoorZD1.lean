/- Own texts for the claim, part 1. -/
import Derived.WalkKit
import Derived.ProofKit
import Derived.OpenShut
import Derived.Maps.AppendAt
import Derived.Deep.RegionLaw
import Derived.RegionDies
import Derived.BigCall
import Derived.IntWalk
import Derived.Outline
import Derived.Deep.QuietTactic
import Derived.BigQuiet
import Derived.RegionTactic
import Derived.Laws.BitsAllLaws
import Derived.WalkLawsBesides
import Derived.Deep.RegionWith
import Derived.BigRegion
import Derived.Laws.BytesArg
import Derived.OwnWalk
import Derived.Recover
import Derived.Defers
import Derived.Test.YtnojgiflgmnjlaaGreatDoorProg
namespace Go.Proofs.YtnojgiflgmnjlaaGreatDoor
theorem BLw {B : Nat} {a b : Go.World} (h : Go.RowKit.Below B a b := by repeat' first | with_reducible exact Below.refl _ _ | with_reducible assumption | with_reducible refine belows_drewN ?_ _ | with_reducible refine Below.drew ?_ | with_reducible refine Below.setCell ?_ ?_ _ | with_reducible refine Below.alloc ?_ ?_ _ | omega | (simp; done) | (simp; omega)) : Go.RowKit.Below B a b := h
theorem GRw {a b : Go.World} {r : Option Nat} (h : a.grownBy b r := by repeat' first | with_reducible assumption | with_reducible exact grown_refl' _ _ | with_reducible refine L3.grown_set ?_ ?_ _ _ | with_reducible refine grown_al ?_ _ | with_reducible refine grown_dr ?_ | omega | (simp only [World.size_alloc, World.size_setCell]; omega)) : a.grownBy b r := h
end Go.Proofs.YtnojgiflgmnjlaaGreatDoor
set_option maxRecDepth 100000
namespace Go.Proofs.YtnojgiflgmnjlaaGreatDoor.Kit
open Go Go.RowKit Go.ChangeShapes Go.WideShapes Go.ChangeAt
section
variable {H : Type} {enc : TypeId × Value → H} {P : Program}
theorem trodAll_later (hl : laidOutB P = true) {W W' : World} (hb : Below W.heap.size W W') (sp : Nat → Bool) :
  ∀ {ts : List TypeId} {vs : List Value} {ds : List (DataW H)} {ps : List MemPlace},(∀ t ∈ ts,P.readableRec t = true ∧ t < P.types.size) → DataW.TrodAll enc P W 0 (fun _=>true) true ts vs ds ps →
   (∀ x ∈ ps,x.block < W.heap.size) → (∀ x ∈ ps,sp x.block = true) → DataW.TrodAll enc P W' 0 sp true ts vs ds ps
 | [],vs,ds,ps,_,h,_,_=>by
  obtain ⟨rfl,rfl,rfl⟩:=trodAll_nil h
  exact trodAll_mk0
 | t :: ts,vs,ds,ps,hr,h,hlt,hsp=>by
  obtain ⟨v,vs',d,ds',p,q,rfl,rfl,rfl,h0,h1⟩:=trodAll_cons h
  exact trodAll_cons_mk (WideElems.Trod_stays hl (hr t (by simp)).1 (hr t (by simp)).2 h0 (fun x hx=>hb.same (hlt x (by simp [hx]))) (fun x hx=>hsp x (by simp [hx])))
   (trodAll_later hl hb sp (fun t ht=>hr t (by simp [ht])) h1 (fun x hx=>hlt x (by simp [hx])) (fun x hx=>hsp x (by simp [hx])))
theorem law_post {f : Func} {s : ChangeSpec} {apart fresh handsOn again : Bool} {W W' : World} {args : Array Value} {ds gs : List (DataW H)} {before : List MemPlace} {tb : TypeId}
  (hv : s.vars = []) (hr : f.resultTypes = #[tb]) (htb : P.underlying tb = some .bool) (hl : laidOutB P = true) (hrd : ∀ t ∈ f.params.toList,P.readableRec t = true ∧ t < P.types.size)
  (hW : DataW.Whole enc P f.params.toList s.vars apart W args.toList ds gs before)
  (hfn : s.fn H (ds ++ gs) = { results:=[.lit (.bool true)],args:=ds }) (hb : Below W.heap.size W W') :
  s.post enc P f apart fresh handsOn again W args (.bool true) W':=by
 have hlt : ∀ p ∈ before,p.block < W.heap.size:=fun p hp=>hW.lt p hp
 have hW':=hW
 obtain ⟨p,q,hA,hV,rfl,hfz,hnd⟩:=hW
 rw [hv] at hV
 obtain ⟨rfl,rfl⟩:=trodVars_none hV
 simp only [List.append_nil] at hlt hfz hnd hW' hfn ⊢
 have hres : ∀ (b : Nat) (sp : Nat → Bool) (hd : Bool),DataW.TrodAll enc P W' b sp hd f.resultTypes.toList ((Value.bool true).resultList f.resultTypes.size) (s.fn H ds).results []:=by
  intro b sp hd
  rw [hr,hfn]
  exact trodAll_cons_mk (shut_bool htb _) trodAll_mk0
 have hargs : ∀ sp : Nat → Bool,(∀ x ∈ p,sp x.block = true) → DataW.TrodAll enc P W' 0 sp true f.params.toList args.toList (s.fn H ds).args p:=by
  intro sp hsp
  rw [hfn]
  exact trodAll_later hl hb sp hrd hA hlt hsp
 have hvs : ∀ sp : Nat → Bool,DataW.TrodVars enc P W' sp s.vars (s.fn H ds).vars []:=by
  intro sp
  rw [hv,hfn]
  rfl
 have hold : ∀ x ∈ p,(fun b=>decide (b < W.heap.size)) x.block = true:=fun x hx=>by simpa using hlt x hx
 refine ⟨ds,[],p,[],p,[],hW',?_,?_,?_,World.keptBut_mono (fun x hx=>⟨hx,.inr (.inl hx)⟩) (hb.frame (·∈ p)),fun _=>?_⟩
 ·rw [List.append_nil];exact hres _ _ _
 ·rw [List.append_nil];exact hargs _ hold
 ·rw [List.append_nil];exact hvs _
 ·refine ⟨ok_one hr rfl (okWide_bool_mk htb _),_,_,([] ++ p) ++ [],⟨[] ++ p,[],trodAll_append (hargs _ (fun _ _=>rfl)) (hres _ _ _),hvs _,rfl,?_,?_⟩,?_⟩
  ·intro b off hp
   have hin : MemPlace.cell b off ∈ p:=by simpa using hp
   have:=hb.frozen (p:=⟨b,off,none⟩) (hlt _ hin)
   rw [this]
   exact hfz b off hin
  ·intro ha
   simpa using hnd ha
  ·intro x hx _
   simpa using hx
end
end Go.Proofs.YtnojgiflgmnjlaaGreatDoor.Kit
namespace Go.Proofs.YtnojgiflgmnjlaaGreatDoor.Kit
open Go Go.RowKit
def IsS (size : Nat) (w : World) (v : Value) (n : Nat) (xs : List Value) : Prop :=
 xs.length = n * size ∧ n ≤ 140737488355328 ∧ ((n = 0 ∧ ∃ a cap,v = .slice a 0 cap) ∨ (∃ b o cap,v = .slice (some ⟨b,o,none⟩) n cap ∧ n ≤ cap ∧ b < w.heap.size ∧ ∀ i u,xs[i]? = some u → w.cell? ⟨b,o + i,none⟩ = some u))
theorem IsS.below {size : Nat} {w w' : World} {v : Value} {n : Nat} {xs : List Value} (h : IsS size w v n xs) {B : Nat} (hb : Below B w w') (hB : w.heap.size ≤ B) : IsS size w' v n xs:=by
 refine ⟨h.1,h.2.1,?_⟩
 rcases h.2.2 with h|⟨b,o,cap,hv,hl,hlt,hc⟩
 ·exact .inl h
 ·exact .inr ⟨b,o,cap,hv,hl,Nat.lt_of_lt_of_le hlt hb.size,fun i u hi=>(hb.cell (p:=⟨b,o + i,none⟩) (by simp;omega)).trans (hc i u hi)⟩
theorem IsS.len {size : Nat} {w : World} {v : Value} {n : Nat} {xs : List Value} (h : IsS size w v n xs) : ∃ a cap,v = .slice a n cap:=by
 rcases h.2.2 with ⟨rfl,a,cap,rfl⟩|⟨b,o,cap,rfl,-⟩
 ·exact ⟨a,cap,rfl⟩
 ·exact ⟨_,cap,rfl⟩
theorem IsS.some {size : Nat} {w : World} {v : Value} {n : Nat} {xs : List Value} (h : IsS size w v n xs) (hn : 0 < n) :
  ∃ b o cap,v = .slice (Option.some ⟨b,o,none⟩) n cap ∧ n ≤ cap ∧ b < w.heap.size ∧ ∀ i u,xs[i]? = Option.some u → w.cell? ⟨b,o + i,none⟩ = Option.some u:=by
 rcases h.2.2 with ⟨rfl,_⟩|h
 ·omega
 ·exact h
theorem isS_of_owns {w : World} {base : Nat} {e : TypeId} {size : Nat} {v : Value} {n : Nat} {xs : List Value} (h : w.ownsRow base e size v n xs) (hn : n ≤ 140737488355328) : IsS size w v n xs:=by
 obtain ⟨hl,h⟩:=h
 refine ⟨hl,hn,?_⟩
 rcases h with ⟨rfl,rfl⟩|⟨g,cap,cur,rfl,hg,hh,hc1,hc2,hc3,ht⟩
 ·exact .inl ⟨rfl,none,0,rfl⟩
 ·refine .inr ⟨g,0,cap,rfl,hc1,?_,fun i u hi=>?_⟩
  ·rw [Array.getElem?_eq_some_iff] at hh;exact hh.1
  ·have hlt : i < xs.length:=by rw [List.getElem?_eq_some_iff] at hi;exact hi.1
   have : cur[i]? = Option.some u:=by
    rw [← ht,List.getElem?_take_of_lt (by omega)] at hi
    simpa using hi
   simp [World.cell?,hh,this]
theorem below_grown {B : Nat} {a w w' : World} {v : Value} (h : Below B a w) (hg : w.grownBy w' v.ownBlock) (hB : B ≤ w.heap.size) (hr : ∀ k,v.ownBlock = some k → B ≤ k) : Below B a w':=h.grown hg hB hr
theorem own_base {w : World} {base : Nat} {e : TypeId} {size : Nat} {v : Value} {n : Nat} {xs : List Value} (h : w.ownsRow base e size v n xs) : ∀ k,v.ownBlock = some k → base ≤ k:=by
 intro k hk
 rcases h.2 with ⟨rfl,-⟩|⟨g,cap,cur,rfl,hg,-⟩
 ·simp [Value.ownBlock] at hk
 ·simp [Value.ownBlock] at hk;omega
theorem owns_below {w w' : World} {base B : Nat} {e : TypeId} {size : Nat} {v : Value} {n : Nat} {xs : List Value} (h : w.ownsRow base e size v n xs) (hb : Below B w w') (hB : w.heap.size ≤ B) : w'.ownsRow base e size v n xs:=by
 obtain ⟨h1,h2⟩:=h
 refine ⟨h1,?_⟩
 rcases h2 with h2|⟨g,cap,cur,hv,hg,hh,r⟩
 ·exact .inl h2
 ·refine .inr ⟨g,cap,cur,hv,hg,?_,r⟩
  rw [hb.block g (by rw [Array.getElem?_eq_some_iff] at hh;have:=hh.1;omega)]
  exact hh
theorem cell_set {w : World} {b i j : Nat} {u v : Value} (h : w.cell? ⟨b,j,none⟩ = some u) : (w.setCell ⟨b,i,none⟩ v).cell? ⟨b,j,none⟩ = some (if i = j then v else u):=by
 by_cases hij : i = j
 ·subst hij
  rw [if_pos rfl]
  exact World.cell?_setCell_same _ _ _ h
 ·rw [if_neg hij]
  rw [World.cell?_setCell_other _ _ _ _ (fun e=>hij (Addr.mk.inj e).2.1)]
  exact h
theorem flat_at {α : Type} {f : α → List Value} {s : Nat} (hf : ∀ x,(f x).length = s) : ∀ {l : List α} {k : Nat} {x : α},l[k]? = some x → ∀ j,j < s → (l.flatMap f)[k * s + j]? = (f x)[j]?
 | [],_,_,h,_,_=>by simp at h
 | a :: l,0,x,h,j,hj=>by
  simp only [List.getElem?_cons_zero,Option.some.injEq] at h
  subst h
  rw [List.flatMap_cons,List.getElem?_append_left (by rw [hf];omega)]
  simp
 | a :: l,k + 1,x,h,j,hj=>by
  rw [List.flatMap_cons,List.getElem?_append_right (by rw [hf,Nat.add_mul];omega),hf]
  rw [show (k + 1) * s + j - s = k * s + j by rw [Nat.add_mul];omega]
  exact flat_at hf (by simpa using h) j hj
theorem flat_len {α : Type} {f : α → List Value} {s : Nat} (hf : ∀ x,(f x).length = s) : ∀ l : List α,(l.flatMap f).length = l.length * s
 | []=>by simp
 | a :: l=>by rw [List.flatMap_cons,List.length_append,hf,flat_len hf l,List.length_cons,Nat.add_mul];omega
theorem news_one (w : World) (x : Value) (t : TypeId) : ∀ j u,[x][j]? = some u → (w.alloc (.cells #[x] t)).cell? ((⟨w.heap.size,0,none⟩ : Addr).add j) = some u:=by
 intro j u h
 match j,h with
 | 0,h =>
  simp only [List.getElem?_cons_zero,Option.some.injEq] at h
  subst h
  show (w.alloc (.cells #[x] t)).cell? ⟨w.heap.size,0,none⟩ = some x
  rw [World.cell?_alloc_new];rfl
 | j + 1,h=>simp at h
theorem ones_one {x : Value} (h : x.oneCell' = true) : ∀ u ∈ [x],u.oneCell' = true:=by
 intro u hu
 simp only [List.mem_singleton] at hu
 subst hu;exact h
end Go.Proofs.YtnojgiflgmnjlaaGreatDoor.Kit
namespace Go.Proofs.YtnojgiflgmnjlaaGreatDoor.Kit
open Go Go.RowKit
theorem step_call1 {P : Program} {ops : Array Oper} {o : Oper} {a : Act} {w : World} {K : Act → World → Prop} {Q : Exit → Act → World → Prop} {E : Prop}
  (hg : o.guard = none) (f : FuncId) (x : Operand) (t : TypeId) (hop : o.op = Op.call { callee:=Callee.value (.func f),args:=#[x],argTypes:=#[t] }) (v : Value) (hx : a.eval x = v) (hcf : (callFunc f #[v]).run P w = .ok (.enter f #[v]) w)
  (R : Ending → World → Prop) (hC : Calls P f #[v] w R) (hR : ∀ e w',R e w' → ∃ u,e = .returned u ∧ K (a.put o.dst u) w') :
  if Region.wanted o (yielded ops a.tmps) = true then Oper.wp P o a w K Q else E:=by
 have hw : Region.wanted o (yielded ops a.tmps) = true:=by simp [Region.wanted,hg]
 rw [if_pos hw]
 have hrun : (execOp a.eval o).run P w = .ok (.enter f #[v]) w:=by
  cases o
  simp only at hop
  subst hop hx
  rw [execOp_call_go]
  simpa using hcf
 unfold Oper.wp
 rw [hrun]
 show Calls P f #[v] w _
 refine hC.mono ?_
 intro e w' h
 obtain ⟨u,rfl,hk⟩:=hR e w' h
 exact hk
theorem step_call2 {P : Program} {ops : Array Oper} {o : Oper} {a : Act} {w : World} {K : Act → World → Prop} {Q : Exit → Act → World → Prop} {E : Prop}
  (hg : o.guard = none) (f : FuncId) (x y : Operand) (t t' : TypeId) (hop : o.op = Op.call { callee:=Callee.value (.func f),args:=#[x,y],argTypes:=#[t,t'] }) (v v' : Value) (hx : a.eval x = v) (hy : a.eval y = v') (hcf : (callFunc f #[v,v']).run P w = .ok (.enter f #[v,v']) w)
  (R : Ending → World → Prop) (hC : Calls P f #[v,v'] w R) (hR : ∀ e w',R e w' → ∃ u,e = .returned u ∧ K (a.put o.dst u) w') :
  if Region.wanted o (yielded ops a.tmps) = true then Oper.wp P o a w K Q else E:=by
 have hw : Region.wanted o (yielded ops a.tmps) = true:=by simp [Region.wanted,hg]
 rw [if_pos hw]
 have hrun : (execOp a.eval o).run P w = .ok (.enter f #[v,v']) w:=by
  cases o
  simp only at hop
  subst hop hx hy
  rw [execOp_call_go]
  simpa using hcf
 unfold Oper.wp
 rw [hrun]
 show Calls P f #[v,v'] w _
 refine hC.mono ?_
 intro e w' h
 obtain ⟨u,rfl,hk⟩:=hR e w' h
 exact hk
theorem step_append_own {P : Program} {ops : Array Oper} {o : Oper} {a : Act} {w : World} {K : Act → World → Prop} {Q : Exit → Act → World → Prop} {E : Prop}
  (hg : o.guard = none) (s x : Operand) (t : TypeId) (hop : o.op = Op.call { callee:=Callee.builtin Builtin.append,args:=#[s,x],argTypes:=#[t,t] })
  (base : Nat) (e : TypeId) (i : TypeInfo) (z : Value) (size bytes : Nat) (ht : P.underlying t = some (.slice e)) (hi : P.info? e = some i) (hz : i.zero = some z)
  (hsize : i.size = size) (hby : i.bytes = bytes) (hzs : z.cells.size = size) (hsz : 0 < size)
  (v : Value) (n : Nat) (xs : List Value) (hs : a.eval s = v) (hown : w.ownsRow base e size v n xs)
  (ad : Addr) (m c : Nat) (news : List Value) (hx : a.eval x = .slice (some ad) m c) (hl : news.length = m * size) (hnews : ∀ j u,news[j]? = some u → w.cell? (ad.add j) = some u) (h1 : ∀ u ∈ news,u.oneCell' = true)
  (h63 : n + m ≤ maxLen) (hbytes : (n + m) * bytes ≤ 140737488355328) (hbase : base ≤ w.heap.size)
  (hK : ∀ v' w',w'.ownsRow base e size v' (n + m) (xs ++ news) → w.grownBy w' v.ownBlock → (v'.ownBlock = v.ownBlock ∨ v'.ownBlock = some w.heap.size) → K (a.put o.dst v') w') :
  if Region.wanted o (yielded ops a.tmps) = true then Oper.wp P o a w K Q else E:=by
 have hw : Region.wanted o (yielded ops a.tmps) = true:=by simp [Region.wanted,hg]
 rw [if_pos hw]
 obtain ⟨v',w',hr,h2,h3,-,h5⟩:=run_append_own_at (P:=P) w base t o.type e i z size bytes ht hi hz hsize hby hzs hsz v n xs hown ad m c news hl hnews h1 h63 hbytes hbase
 unfold Oper.wp execOp
 simp only [hop,resolve,invoke,builtin,Sem.run_bind,Sem.run_pure,Result.andThen_ok,List.map_toArray,List.map_cons,List.map_nil,hs,hx,hr]
 exact hK _ _ h2 h3 h5
theorem owns_grown {w w' : World} {base : Nat} {e : TypeId} {size : Nat} {v : Value} {n : Nat} {xs : List Value} {r : Nat} (h : w.ownsRow base e size v n xs) (hg : w.grownBy w' (some r)) (hr : r < base) : w'.ownsRow base e size v n xs:=by
 obtain ⟨h1,h2⟩:=h
 refine ⟨h1,?_⟩
 rcases h2 with h2|⟨g,cap,cur,hv,hge,hh,k⟩
 ·exact .inl h2
 ·refine .inr ⟨g,cap,cur,hv,hge,?_,k⟩
  rw [hg.block g (Array.getElem?_eq_some_iff.1 hh).1 (by simp;omega)]
  exact hh
theorem grown_own {w a b : World} {r : Nat} {row : Option Nat} (h : w.grownBy a (some r)) (k : a.grownBy b row) (hr : ∀ j,row = some j → w.heap.size ≤ j) : w.grownBy b (some r) :=
 ⟨k.os.trans h.os,k.tape.trans h.tape,k.output.trans h.output,Nat.le_trans h.size k.size,fun i hi hne=>(k.block i (Nat.lt_of_lt_of_le hi h.size) (fun e=>by have:=hr i e.symm;omega)).trans (h.block i hi hne)⟩
end Go.Proofs.YtnojgiflgmnjlaaGreatDoor.Kit
namespace Go.Proofs.YtnojgiflgmnjlaaGreatDoor.Kit
open Go Go.RowKit
theorem own_lt {w : World} {base : Nat} {e : TypeId} {size : Nat} {v : Value} {n : Nat} {xs : List Value} (h : w.ownsRow base e size v n xs) : ∀ k,v.ownBlock = some k → k < w.heap.size:=by
 intro k hk
 rcases h.2 with ⟨rfl,-⟩|⟨g,cap,cur,rfl,hg,hh,-⟩
 ·simp [Value.ownBlock] at hk
 ·simp only [Value.ownBlock,Option.some.injEq] at hk
  subst hk
  rw [Array.getElem?_eq_some_iff] at hh
  exact hh.1
structure Grows (w w' : World) (v v' : Value) : Prop where
 grown : w.grownBy w' v.ownBlock
 blk : v'.ownBlock = v.ownBlock ∨ ∃ k,w.heap.size ≤ k ∧ v'.ownBlock = some k
theorem Grows.refl (w : World) (v : Value) : Grows w w v v:=⟨⟨rfl,rfl,rfl,Nat.le_refl _,fun _ _ _=>rfl⟩,.inl rfl⟩
theorem Grows.trans {a b c : World} {u v x : Value} (h : Grows a b u v) (k : Grows b c v x) : Grows a c u x:=by
 refine ⟨⟨k.grown.os.trans h.grown.os,k.grown.tape.trans h.grown.tape,k.grown.output.trans h.grown.output,Nat.le_trans h.grown.size k.grown.size,fun i hi hne=>?_⟩,?_⟩
 ·have h2 : some i ≠ v.ownBlock:=by
   rcases h.blk with e|⟨j,hj,e⟩
   ·rw [e];exact hne
   ·rw [e];intro e2;have:=Option.some.inj e2;omega
  exact (k.grown.block i (Nat.lt_of_lt_of_le hi h.grown.size) h2).trans (h.grown.block i hi hne)
 ·rcases k.blk with e|⟨j,hj,e⟩
  ·rw [e];exact h.blk
  ·exact .inr ⟨j,Nat.le_trans h.grown.size hj,e⟩
theorem Grows.below {a b c : World} {u v : Value} (h : Grows a b u v) (k : Below b.heap.size b c) : Grows a c u v :=
 ⟨⟨k.os.trans h.grown.os,k.tape.trans h.grown.tape,k.output.trans h.grown.output,Nat.le_trans h.grown.size k.size,fun i hi hne=>(k.block i (Nat.lt_of_lt_of_le hi h.grown.size)).trans (h.grown.block i hi hne)⟩,h.blk⟩
theorem grows_append {w w1 w2 : World} {v v' : Value} (hb : Below w.heap.size w w1) (hg : w1.grownBy w2 v.ownBlock) (hk : v'.ownBlock = v.ownBlock ∨ v'.ownBlock = some w1.heap.size) : Grows w w2 v v':=by
 refine ⟨⟨hg.os.trans hb.os,hg.tape.trans hb.tape,hg.output.trans hb.output,Nat.le_trans hb.size hg.size,fun i hi hne=>(hg.block i (Nat.lt_of_lt_of_le hi hb.size) hne).trans (hb.block i hi)⟩,?_⟩
 rcases hk with h|h
 ·exact .inl h
 ·exact .inr ⟨_,hb.size,h⟩
theorem Grows.cell {w w' : World} {v v' : Value} (h : Grows w w' v v') {b : Nat} (hb : b < w.heap.size) (hne : ∀ k,v.ownBlock = some k → k ≠ b) (o : Nat) : w'.cell? ⟨b,o,none⟩ = w.cell? ⟨b,o,none⟩ :=
 World.cell?_of_block (h.grown.block b hb (fun e=>hne b e.symm rfl))
theorem Grows.frozen {w w' : World} {v v' : Value} (h : Grows w w' v v') {b : Nat} (hb : b < w.heap.size) (hne : ∀ k,v.ownBlock = some k → k ≠ b) (o : Nat) : w'.frozen? ⟨b,o,none⟩ = w.frozen? ⟨b,o,none⟩ :=
 World.frozen?_of_block (h.grown.block b hb (fun e=>hne b e.symm rfl))
theorem Grows.to_below {B : Nat} {a w w' : World} {v v' : Value} (h : Grows w w' v v') (hb : Below B a w) (hB : B ≤ w.heap.size) (hv : ∀ k,v.ownBlock = some k → B ≤ k) : Below B a w':=hb.grown h.grown hB hv
theorem Grows.size {w w' : World} {v v' : Value} (h : Grows w w' v v') : w.heap.size ≤ w'.heap.size:=h.grown.size
end Go.Proofs.YtnojgiflgmnjlaaGreatDoor.Kit
namespace Go.Proofs.YtnojgiflgmnjlaaGreatDoor.L3
open Go.RowKit
theorem hid {p : Prop} (h : p) : Hid p:=h
theorem belows {B : Nat} {a b c : World} (h : Below B a b) (k : Below b.heap.size b c) (hB : B ≤ b.heap.size) : Below B a c:=h.trans (k.mono hB)
theorem belows_drewN {B : Nat} {a b : World} (h : Below B a b) (n : Nat) : Below B a (b.drewN n):=⟨h.os,h.tape,h.output,h.size,h.block⟩
theorem bcell {W w1 : World} (hb : Below W.heap.size W w1) : (∀ b o,b < W.heap.size → w1.cell? ⟨b,o,none⟩ = W.cell? ⟨b,o,none⟩) ∧ (∀ b o,b < W.heap.size → w1.frozen? ⟨b,o,none⟩ = W.frozen? ⟨b,o,none⟩) :=
 ⟨fun b o h=>hb.cell (p:=⟨b,o,none⟩) h,fun b o h=>hb.frozen (p:=⟨b,o,none⟩) h⟩
end Go.Proofs.YtnojgiflgmnjlaaGreatDoor.L3
namespace Go.Proofs.YtnojgiflgmnjlaaGreatDoor.L3.Cp
open Go Go.RowKit
theorem rev_ind {α : Type} {P : List α → Prop} (h0 : P []) (h1 : ∀ l a,P l → P (l ++ [a])) (l : List α) : P l:=by
 have h : ∀ m : List α,P m.reverse:=by
  intro m
  induction m with
  | nil=>exact h0
  | cons a m ih=>rw [List.reverse_cons];exact h1 _ _ ih
 have:=h l.reverse
 rwa [List.reverse_reverse] at this
abbrev bl (s : ByteArray) : List UInt8:=s.data.toList
abbrev W64 (z : Int) : Int:=wrap64 z
def numU (l : List UInt8) : Int:=l.foldl (fun z c=>z * 256 + (c.toNat : Int)) 0
def numI (l : List UInt8) : Int:=l.foldl (fun z c=>W64 (z * 256 + (c.toNat : Int))) 0
theorem numU_snoc (l : List UInt8) (c : UInt8) : numU (l ++ [c]) = numU l * 256 + (c.toNat : Int):=by unfold numU;rw [List.foldl_append];rfl
theorem numI_snoc (l : List UInt8) (c : UInt8) : numI (l ++ [c]) = W64 (numI l * 256 + (c.toNat : Int)):=by unfold numI;rw [List.foldl_append];rfl
theorem w64 (z : Int) : W64 z = (z + 9223372036854775808) % 18446744073709551616 - 9223372036854775808:=by
 unfold W64 wrap64
 rfl
theorem numI_U (l : List UInt8) : numI l = W64 (numU l):=by
 refine rev_ind (P:=fun l=>numI l = W64 (numU l)) (by decide +kernel) (fun l c ih=>?_) l
 rw [numI_snoc,numU_snoc,ih];simp only [w64];omega
theorem u8_lt (c : UInt8) : c.toNat < 256:=c.toNat_lt
theorem numU_range (l : List UInt8) : 0 ≤ numU l ∧ numU l < 256 ^ l.length:=by
 refine rev_ind (P:=fun l=>0 ≤ numU l ∧ numU l < 256 ^ l.length) (by simp [numU]) (fun l c ih=>?_) l
 rw [numU_snoc,List.length_append,List.length_singleton,Int.pow_succ]
 have:=u8_lt c
 omega
theorem or_step (z : Int) (x : Nat) (hx : x < 256) : bits .or .i64 (W64 (z * 256)) (x : Int) = W64 (z * 256 + x):=by
 have hm : (z * 256) % 18446744073709551616 = (z % 72057594037927936) * 256:=by omega
 obtain ⟨m,hm2⟩:=Int.eq_ofNat_of_zero_le (show 0 ≤ z % 72057594037927936 by omega)
 have hml : m < 72057594037927936:=by omega
 have e1 : (BitVec.ofInt 64 (W64 (z * 256))).toNat = 256 * m:=by
  rw [BitVec.toNat_ofInt]
  have : (W64 (z * 256)) % ((2 ^ 64 : Nat) : Int) = ((256 * m : Nat) : Int):=by rw [w64];omega
  rw [this];omega
 have e2 : (BitVec.ofInt 64 (x : Int)).toNat = x:=by
  rw [BitVec.toNat_ofInt]
  have : (x : Int) % ((2 ^ 64 : Nat) : Int) = (x : Int):=by omega
  rw [this];omega
 have e3 : 256 * m ||| x = 256 * m + x:=by
  have:=Nat.shiftLeft_add_eq_or_of_lt (i:=8) (b:=x) (by omega) m
  rw [Nat.shiftLeft_eq] at this
  simp only [Nat.reducePow] at this
  rw [Nat.mul_comm 256 m,← this]
 show IntKind.i64.wrap ((BitVec.ofInt 64 (W64 (z * 256)) ||| BitVec.ofInt 64 (x : Int)).toNat : Int) = _
 rw [BitVec.toNat_or,e1,e2,e3]
 rw [IntWalk.i64_left]
 show W64 _ = _
 rw [w64,w64]
 omega
structure C where
 t : Int
 s : ByteArray
 n : Int
 a : Int
 b : Int
deriving DecidableEq
def C0 : C:=⟨0,⟨#[]⟩,0,0,0⟩
def wd (t : Int) : Nat × Nat × Nat × Nat :=
 if t = 1 then (2,0,0,0) else if t = 3 then (0,4,0,0) else if t = 5 then (0,8,0,0) else if t = 7 then (0,0,2,0)
 else if t = 9 ∨ t = 10 ∨ t = 12 then (0,0,2,2) else (0,0,0,0)
def knownB (t : Int) : Bool:=decide (t = 1 ∨ t = 3 ∨ t = 5 ∨ t = 7 ∨ t = 9 ∨ t = 10 ∨ t = 12)
def plainB (l : List UInt8) : Bool:=l.all fun c=>decide (1 ≤ c.toNat) && decide (c.toNat ≤ 127)
def sgn (z : Int) (k : Nat) : Int:=W64 (z * 2 ^ (64 - 8 * k)) / 2 ^ (64 - 8 * k)
end Go.Proofs.YtnojgiflgmnjlaaGreatDoor.L3.Cp
namespace Go.Proofs.YtnojgiflgmnjlaaGreatDoor.L3
open Go.RowKit
theorem bl_len (t : ByteArray) : (Cp.bl t).length = t.size:=by unfold Cp.bl;rw [Array.length_toList];rfl
theorem bl_at (t : ByteArray) (k : Nat) (h : k < t.size) : (Cp.bl t)[k]? = some t[k]:=by
 unfold Cp.bl
 rw [Array.getElem?_toList,Array.getElem?_eq_getElem (by exact h)]
 rfl
theorem ba_ext {a b : ByteArray} (h : Cp.bl a = Cp.bl b) : a = b:=by
 obtain ⟨⟨x⟩⟩:=a;obtain ⟨⟨y⟩⟩:=b
 have : x = y:=h
 rw [this]
structure Tabs (w : World) : Prop where
 size : 1 ≤ w.heap.size
 cells : ∀ k : Nat,k < 13 → w.cell? ⟨0,k * 4,none⟩ = some (.int .i64 (Cp.wd k).1) ∧ w.cell? ⟨0,k * 4 + 1,none⟩ = some (.int .i64 (Cp.wd k).2.1) ∧ w.cell? ⟨0,k * 4 + 2,none⟩ = some (.int .i64 (Cp.wd k).2.2.1) ∧ w.cell? ⟨0,k * 4 + 3,none⟩ = some (.int .i64 (Cp.wd k).2.2.2)
theorem Tabs.below {B : Nat} {w w' : World} (h : Tabs w) (hb : Below B w w') (hB : 1 ≤ B) : Tabs w':=by
 refine ⟨Nat.le_trans h.size hb.size,fun k hk=>?_⟩
 obtain ⟨a,b,c,d⟩:=h.cells k hk
 have hc:=fun j=>hb.cell (p:=⟨0,j,none⟩) (by simp;omega)
 exact ⟨(hc _).trans a,(hc _).trans b,(hc _).trans c,(hc _).trans d⟩
theorem all_take_step {f : UInt8 → Bool} {t : ByteArray} {k : Nat} (h : k < t.size) (hg : ((Cp.bl t).take k).all f = true) (hx : f t[k] = true) : ((Cp.bl t).take (k + 1)).all f = true:=by
 rw [List.take_add_one,bl_at t k h,List.all_append,hg]
 simp [hx]
theorem all_bad {f : UInt8 → Bool} {t : ByteArray} {k : Nat} (h : k < t.size) (hx : f t[k] = false) : (Cp.bl t).all f = false:=by
 rw [List.all_eq_false]
 refine ⟨t[k],List.mem_of_getElem? (bl_at t k h),by simp [hx]⟩
set_option maxHeartbeats 400000 in
theorem isPlain_any (s : ByteArray) (w : World) (hs : s.size ≤ 140737488355328) :
  Calls Tryz.prog 190 #[.string s] w fun e w'=>e = .returned (.bool (Cp.plainB (Cp.bl s))) ∧ w = w':=by
 unfold Cp.plainB
 obtain ⟨f,hf⟩ : ∃ f : UInt8 → Bool,f = fun c=>decide (1 ≤ c.toNat) && decide (c.toNat ≤ 127):=⟨_,rfl⟩
 rw [← hf]
 obtain ⟨r,hr⟩ : ∃ r,r = (Cp.bl s).all f:=⟨_,rfl⟩
 rw [← hr]
 have HR:=hid hr
 clear hr
 go_enter Tryz.func190,Tryz.ntmps190
 go_wp2
 go_loop [6] (fun i=>∃ k : Nat,k ≤ s.size ∧ i = .int .i64 k ∧ Hid (((Cp.bl s).take k).all f = true)) (fun i=>s.size - (intOf i).toNat)
 case atStart=>exact ⟨0,Nat.zero_le _,rfl,rfl⟩
 case round =>
  obtain ⟨k,hk,rfl,hg⟩:=hrel
  by_cases hlt : k < s.size
  ·have HF0 : f s[k] = (decide (1 ≤ s[k].toNat) && decide (s[k].toNat ≤ 127)):=by rw [hf]
   clear hf
   by_cases h1 : s[k].toNat = 0
   ·have hd : ((s[k].toNat : Int) == 0) = true:=by rw [beq_iff_eq];omega
    have HF:=hid (HR.out.trans <| all_bad (f:=f) hlt (by rw [HF0];simp;omega))
    clear HF0
    go_wp2
    go_ret
    exact ⟨by rw [HF.out];rfl,rfl⟩
   ·have hd : ((s[k].toNat : Int) == 0) = false:=by rw [beq_eq_false_iff_ne];omega
    by_cases h2 : 127 < (s[k].toNat : Int)
    ·have hd2 : decide (127 < (s[k].toNat : Int)) = true:=by simpa using h2
     have HF:=hid (HR.out.trans <| all_bad (f:=f) hlt (by rw [HF0];simp;omega))
     clear HF0
     go_wp2
     go_ret
     exact ⟨by rw [HF.out];rfl,rfl⟩
    ·have hd2 : decide (127 < (s[k].toNat : Int)) = false:=by simpa using h2
     have HF:=hid (all_take_step hlt hg.out (by rw [HF0];simp;omega))
     clear HF0
     go_wp2
     go_round
     case rel=>exact ⟨k + 1,by omega,by go_num,HF⟩
     case measure=>simp [intOf];omega
  ·obtain rfl : k = s.size:=by omega
   have HF : Hid (r = true):=by
    have h:=hg.out
    show r = true
    rw [HR.out]
    rwa [List.take_of_length_le (by rw [bl_len];exact Nat.le_refl _)] at h
   go_wp2
   go_ret
   exact ⟨by rw [HF.out];rfl,rfl⟩
set_option maxHeartbeats 400000 in
theorem s0 (z : Int) : wrap64 (z * 18446744073709551616) / 18446744073709551616 = 0:=by unfold wrap64;omega
theorem s4 (z : Int) : wrap64 (z * 4294967296) / 4294967296 = IntKind.i32.wrap z:=by rw [IntKind.wrap_i32];unfold wrap64;omega
theorem and0 (z : Int) : bits .and .i64 z 0 = 0:=by
 show IntKind.i64.wrap ((BitVec.ofInt 64 z &&& BitVec.ofInt 64 0).toNat : Int) = _
 rw [BitVec.toNat_and,show (BitVec.ofInt 64 0).toNat = 0 from rfl,Nat.and_zero]
 rfl
theorem and16 (z : Int) : bits .and .i64 z 65535 = z % 65536:=by
 show IntKind.i64.wrap ((BitVec.ofInt 64 z &&& BitVec.ofInt 64 65535).toNat : Int) = _
 rw [BitVec.toNat_and,show (BitVec.ofInt 64 65535).toNat = 2 ^ 16 - 1 from rfl,Nat.and_two_pow_sub_one_eq_mod,BitVec.toNat_ofInt,IntKind.wrap_i64]
 omega
set_option maxHeartbeats 400000 in
theorem signed_0 (z : Int) (w : World) : Calls Tryz.prog 202 #[.int .i64 z,.int .i64 0] w fun e w'=>e = .returned (.int .i64 0) ∧ w = w':=by
 go_enter Tryz.func202,Tryz.ntmps202
 go_wp2
 go_ret
 exact ⟨by rw [← s0 z];rfl,rfl⟩
set_option maxHeartbeats 400000 in
theorem signed_4 (z : Int) (w : World) : Calls Tryz.prog 202 #[.int .i64 z,.int .i64 4] w fun e w'=>e = .returned (.int .i64 (IntKind.i32.wrap z)) ∧ w = w':=by
 go_enter Tryz.func202,Tryz.ntmps202
 go_wp2
 go_ret
 exact ⟨by rw [← s4];rfl,rfl⟩
set_option maxHeartbeats 400000 in
theorem signed_8 (z : Int) (w : World) : Calls Tryz.prog 202 #[.int .i64 z,.int .i64 8] w fun e w'=>e = .returned (.int .i64 (IntKind.i64.wrap z)) ∧ w = w':=by
 go_enter Tryz.func202,Tryz.ntmps202
 go_wp2
 go_ret
 exact ⟨by rw [IntWalk.i64_left];rfl,rfl⟩
set_option maxHeartbeats 400000 in
theorem unsigned_0 (z : Int) (w : World) : Calls Tryz.prog 203 #[.int .i64 z,.int .i64 0] w fun e w'=>e = .returned (.int .i64 0) ∧ w = w':=by
 go_enter Tryz.func203,Tryz.ntmps203
 go_wp2
 go_ret
 exact ⟨by show Ending.returned (.int .i64 (bits .and .i64 z 0)) = _;rw [and0],rfl⟩
set_option maxHeartbeats 400000 in
theorem unsigned_2 (z : Int) (w : World) : Calls Tryz.prog 203 #[.int .i64 z,.int .i64 2] w fun e w'=>e = .returned (.int .i64 (z % 65536)) ∧ w = w':=by
 go_enter Tryz.func203,Tryz.ntmps203
 go_wp2
 go_ret
 exact ⟨by rw [← and16 z];rfl,rfl⟩
set_option maxHeartbeats 1000000 in
theorem widthsOf_out (t : Int) (w : World) (h : t < 0 ∨ 13 ≤ t) : Calls Tryz.prog 144 #[.int .i64 t] w fun e w'=>e = .returned (.tuple #[.agg #[.int .i64 0,.int .i64 0,.int .i64 0,.int .i64 0],.bool false]) ∧ Below w.heap.size w w':=by
 rcases h with h|h
 ·have hd : decide (t < 0) = true:=by simpa using h
  go_enter Tryz.func144,Tryz.ntmps144
  go_wp2
  exact bodyPost_ret (v:=.tuple #[.agg #[.int .i64 0,.int .i64 0,.int .i64 0,.int .i64 0],.bool false]) (by simp [results,Tryz.results144,go_sem]) rfl ⟨rfl,BLw⟩
 ·have hd : decide (t < 0) = false:=by simp;omega
  have hd2 : decide (13 ≤ t) = true:=by simpa using h
  go_enter Tryz.func144,Tryz.ntmps144
  go_wp2
  exact bodyPost_ret (v:=.tuple #[.agg #[.int .i64 0,.int .i64 0,.int .i64 0,.int .i64 0],.bool false]) (by simp [results,Tryz.results144,go_sem]) rfl ⟨rfl,BLw⟩
set_option maxHeartbeats 1000000 in
theorem widthsOf_in (k : Nat) (w : World) (hk : k < 13) (ht : Tabs w) : Calls Tryz.prog 144 #[.int .i64 k] w fun e w'=>e = .returned (.tuple #[.agg #[.int .i64 (Cp.wd k).1,.int .i64 (Cp.wd k).2.1,.int .i64 (Cp.wd k).2.2.1,.int .i64 (Cp.wd k).2.2.2],.bool (Cp.knownB k)]) ∧ Below w.heap.size w w':=by
 obtain ⟨a,b,c,d⟩:=ht.cells k hk
 have hz : 0 < w.heap.size:=ht.size
 have hK : Hid (Cp.knownB k = !(((Cp.wd k).1 : Int) == 0 && ((Cp.wd k).2.1 : Int) == 0 && ((Cp.wd k).2.2.1 : Int) == 0 && ((Cp.wd k).2.2.2 : Int) == 0)):=(show ∀ k,k < 13 → Cp.knownB (k : Nat) = !(((Cp.wd (k : Nat)).1 : Int) == 0 && ((Cp.wd (k : Nat)).2.1 : Int) == 0 && ((Cp.wd (k : Nat)).2.2.1 : Int) == 0 && ((Cp.wd (k : Nat)).2.2.2 : Int) == 0) by decide +kernel) k hk
 obtain ⟨x0,h0⟩ : ∃ x,x = ((Cp.wd k).1 : Int):=⟨_,rfl⟩
 obtain ⟨x1,h1⟩ : ∃ x,x = ((Cp.wd k).2.1 : Int):=⟨_,rfl⟩
 obtain ⟨x2,h2⟩ : ∃ x,x = ((Cp.wd k).2.2.1 : Int):=⟨_,rfl⟩
 obtain ⟨x3,h3⟩ : ∃ x,x = ((Cp.wd k).2.2.2 : Int):=⟨_,rfl⟩
 rw [← h0,← h1,← h2,← h3] at hK ⊢
 rw [← h0] at a
 rw [← h1] at b
 rw [← h2] at c
 rw [← h3] at d
 have hd1 : decide ((k : Int) < 0) = false:=by simp
 have hd2 : decide (13 ≤ (k : Int)) = false:=by simp;omega
 have hki : (k : Int) < 13:=by omega
 have hcls : (x0 = 0 ∧ x1 = 0 ∧ x2 = 0 ∧ x3 = 0) ∨ (¬ x0 = 0) ∨ (x0 = 0 ∧ ¬ x1 = 0) ∨ (x0 = 0 ∧ x1 = 0 ∧ ¬ x2 = 0):=by
  rw [h0,h1,h2,h3]
  exact (show ∀ k,k < 13 → (((Cp.wd (k : Nat)).1 : Int) = 0 ∧ ((Cp.wd (k : Nat)).2.1 : Int) = 0 ∧ ((Cp.wd (k : Nat)).2.2.1 : Int) = 0 ∧ ((Cp.wd (k : Nat)).2.2.2 : Int) = 0) ∨ (¬ ((Cp.wd (k : Nat)).1 : Int) = 0) ∨ (((Cp.wd (k : Nat)).1 : Int) = 0 ∧ ¬ ((Cp.wd (k : Nat)).2.1 : Int) = 0) ∨ (((Cp.wd (k : Nat)).1 : Int) = 0 ∧ ((Cp.wd (k : Nat)).2.1 : Int) = 0 ∧ ¬ ((Cp.wd (k : Nat)).2.2.1 : Int) = 0) by decide +kernel) k hk
 clear h0 h1 h2 h3 ht
 rcases hcls with ⟨rfl,rfl,rfl,rfl⟩|g0|⟨rfl,g1⟩|⟨rfl,rfl,g2⟩
 ·rw [show Cp.knownB k = false from hK.out]
  (go_enter Tryz.func144,Tryz.ntmps144;go_wp2;go_region;go_wp2)
  exact bodyPost_ret (v:=.tuple #[.agg #[.int .i64 0,.int .i64 0,.int .i64 0,.int .i64 0],.bool false]) (by simp [results,Tryz.results144,go_sem]) rfl ⟨rfl,BLw⟩
 ·rw [show Cp.knownB k = true by rw [hK.out];simp [g0]]
  (go_enter Tryz.func144,Tryz.ntmps144;go_wp2;go_region;go_wp2)
  exact bodyPost_ret (v:=.tuple #[.agg #[.int .i64 x0,.int .i64 x1,.int .i64 x2,.int .i64 x3],.bool true]) (by simp [results,Tryz.results144,go_sem]) rfl ⟨rfl,BLw⟩
 ·rw [show Cp.knownB k = true by rw [hK.out];simp [g1]]
  (go_enter Tryz.func144,Tryz.ntmps144;go_wp2;go_region;go_wp2)
  exact bodyPost_ret (v:=.tuple #[.agg #[.int .i64 0,.int .i64 x1,.int .i64 x2,.int .i64 x3],.bool true]) (by simp [results,Tryz.results144,go_sem]) rfl ⟨rfl,BLw⟩
 ·rw [show Cp.knownB k = true by rw [hK.out];simp [g2]]
  (go_enter Tryz.func144,Tryz.ntmps144;go_wp2;go_region;go_wp2)
  exact bodyPost_ret (v:=.tuple #[.agg #[.int .i64 0,.int .i64 0,.int .i64 x2,.int .i64 x3],.bool true]) (by simp [results,Tryz.results144,go_sem]) rfl ⟨rfl,BLw⟩
end Go.Proofs.YtnojgiflgmnjlaaGreatDoor.L3
namespace Go.Proofs.YtnojgiflgmnjlaaGreatDoor.L3
open Go.RowKit
abbrev bv (c : UInt8) : Value:=.int .u8 (c.toNat : Int)
def Bs (lim : Nat) (w : World) (v : Value) (bs : List UInt8) : Prop :=
 bs.length ≤ 281474976710656 ∧ ((bs = [] ∧ ∃ a cap,v = .slice a 0 cap) ∨ ∃ b o cap,v = .slice (some ⟨b,o,none⟩) bs.length cap ∧ bs.length ≤ cap ∧ b < lim ∧ ∀ i c,bs[i]? = some c → w.cell? ⟨b,o + i,none⟩ = some (bv c))
theorem Bs.len {lim : Nat} {w : World} {v : Value} {bs : List UInt8} (h : Bs lim w v bs) : ∃ a cap,v = .slice a bs.length cap:=by
 rcases h.2 with ⟨rfl,a,cap,rfl⟩|⟨b,o,cap,rfl,-⟩
 ·exact ⟨a,cap,rfl⟩
 ·exact ⟨_,cap,rfl⟩
theorem Bs.same {lim : Nat} {w w' : World} {v : Value} {bs : List UInt8} (h : Bs lim w v bs) (hc : ∀ b o,b < lim → w'.cell? ⟨b,o,none⟩ = w.cell? ⟨b,o,none⟩) : Bs lim w' v bs:=by
 refine ⟨h.1,?_⟩
 rcases h.2 with h|⟨b,o,cap,hv,hl,hb,hr⟩
 ·exact .inl h
 ·exact .inr ⟨b,o,cap,hv,hl,hb,fun i c hi=>(hc b _ hb).trans (hr i c hi)⟩
theorem Bs.below {lim B : Nat} {w w' : World} {v : Value} {bs : List UInt8} (h : Bs lim w v bs) (hb : Below B w w') (hB : lim ≤ B) : Bs lim w' v bs :=
 h.same fun b o hlt=>hb.cell (p:=⟨b,o,none⟩) (by simp;omega)
theorem Bs.mono {lim lim' : Nat} {w : World} {v : Value} {bs : List UInt8} (h : Bs lim w v bs) (hl : lim ≤ lim') : Bs lim' w v bs:=by
 refine ⟨h.1,?_⟩
 rcases h.2 with h|⟨b,o,cap,hv,hl2,hb,hr⟩
 ·exact .inl h
 ·exact .inr ⟨b,o,cap,hv,hl2,by omega,hr⟩
def Rdr (w : World) (pb : Nat) (bs : List UInt8) : Prop:=∃ v,w.heap[pb]? = some (.cells #[v] 221 (0,0)) ∧ Bs pb w v bs
theorem Rdr.sz {w : World} {pb : Nat} {bs : List UInt8} (h : Rdr w pb bs) : pb < w.heap.size:=by obtain ⟨v,h,-⟩:=h;exact (Array.getElem?_eq_some_iff.1 h).1
theorem Rdr.below {w w' : World} {pb n : Nat} {bs : List UInt8} (h : Rdr w pb bs) (hb : Below n w w') (hp : pb < n) : Rdr w' pb bs:=by
 obtain ⟨v,h,k⟩:=h
 exact ⟨v,(hb.block pb hp).trans h,k.below hb (by omega)⟩
def Stp (pb : Nat) (bs : List UInt8) (w w' : World) : Prop:=w.grownBy w' (some pb) ∧ Rdr w' pb bs
def pan (er : Int) : Ending:=.panicked [{ v:=.iface 27 (.int .i64 er),recovered:=false }]
def Bad (pb : Nat) (er : Int) (w : World) (e : Ending) (w' : World) : Prop:=e = pan er ∧ w.grownBy w' (some pb)
theorem grownBy_setCell' (w : World) (p : Addr) (v : Value) : w.grownBy (w.setCell p v) (some p.block):=⟨rfl,rfl,rfl,by simp,fun i _ hne=>Below.heap_setCell _ _ _ i (fun e=>hne (by rw [e]))⟩
theorem drop_at {bs : List UInt8} {k i : Nat} {c : UInt8} (h : (bs.drop k)[i]? = some c) : bs[k + i]? = some c:=by rwa [List.getElem?_drop] at h
theorem take_at {bs : List UInt8} {k i : Nat} {c : UInt8} (h : (bs.take k)[i]? = some c) : bs[i]? = some c:=by
 rw [List.getElem?_take] at h
 split at h
 ·exact h
 ·cases h
theorem bx_set {w : World} {pb : Nat} {v : Value} (h : w.heap[pb]? = some (.cells #[v] 221 (0,0))) (u : Value) : (w.setCell ⟨pb,0,none⟩ u).heap[pb]? = some (.cells #[u] 221 (0,0)):=by
 obtain ⟨hlt,hk⟩:=Array.getElem?_eq_some_iff.1 h
 show (w.heap.modify pb _)[pb]? = _
 rw [Array.getElem?_eq_getElem (by rw [Array.size_modify];exact hlt),Array.getElem_modify_self,hk]
 rfl
theorem set_cell_other (w : World) (pb b j : Nat) (u : Value) (h : b < pb) : (w.setCell ⟨pb,0,none⟩ u).cell? ⟨b,j,none⟩ = w.cell? ⟨b,j,none⟩ :=
 World.cell?_setCell_other _ _ _ _ (fun e=>by have:=(Addr.mk.inj e).1;omega)
set_option maxHeartbeats 400000 in
theorem take_bad (pb k : Nat) (bs : List UInt8) (w : World) (hr : Rdr w pb bs) (h : bs.length < k) (_hk : k ≤ 281474976710656) :
  Calls Tryz.prog 217 #[.pointer (some ⟨pb,0,none⟩),.int .i64 k] w fun e w'=>e = pan 30 ∧ w = w':=by
 have hps:=hr.sz
 obtain ⟨v,hb,hv⟩:=hr
 obtain ⟨a,cap,rfl⟩:=hv.len
 have cl : w.cell? ⟨pb,0,none⟩ = some (.slice a bs.length cap):=by simp [World.cell?,hb]
 have hd : decide ((bs.length : Int) < (k : Int)) = true:=by simp;omega
 have hl:=hv.1
 unfold pan
 clear hb hv
 go_enter Tryz.func217,Tryz.ntmps217
 go_wp2
 exact ⟨rfl,rfl,rfl⟩
set_option maxHeartbeats 400000 in
theorem take_ok (pb k : Nat) (bs : List UInt8) (w : World) (hr : Rdr w pb bs) (h : k ≤ bs.length) :
  Calls Tryz.prog 217 #[.pointer (some ⟨pb,0,none⟩),.int .i64 k] w fun e w'=>∃ v,e = .returned v ∧ Bs pb w' v (bs.take k) ∧ Stp pb (bs.drop k) w w':=by
 have hps:=hr.sz
 obtain ⟨v,hb,hv⟩:=hr
 have hl:=hv.1
 rcases hv.2 with ⟨rfl,a,cap,rfl⟩|⟨b,o,cap,rfl,hcap,hlim,hc⟩
 ·obtain rfl : k = 0:=by simpa using h
  have cl : w.cell? ⟨pb,0,none⟩ = some (.slice a 0 cap):=by simp [World.cell?,hb]
  have fz : w.frozen? ⟨pb,0,none⟩ = false:=by simp [World.frozen?,hb]
  clear hv h hl
  have Hb:=hid hb
  clear hb
  cases a with
  | none =>
   go_enter Tryz.func217,Tryz.ntmps217
   go_wp2
   all_goals
    go_ret
    refine ⟨_,rfl,⟨by simp,.inl ⟨rfl,_,_,rfl⟩⟩,grownBy_setCell' _ _ _,_,bx_set Hb.out _,by simp,.inl ⟨rfl,_,_,rfl⟩⟩
  | some ad =>
   go_enter Tryz.func217,Tryz.ntmps217
   go_wp2
   all_goals
    go_ret
    refine ⟨_,rfl,⟨by simp,.inl ⟨rfl,_,_,rfl⟩⟩,grownBy_setCell' _ _ _,_,bx_set Hb.out _,by simp,.inl ⟨rfl,_,_,rfl⟩⟩
 ·have cl : w.cell? ⟨pb,0,none⟩ = some (.slice (some ⟨b,o,none⟩) bs.length cap):=by simp [World.cell?,hb]
  have fz : w.frozen? ⟨pb,0,none⟩ = false:=by simp [World.frozen?,hb]
  have hd : decide ((bs.length : Int) < (k : Int)) = false:=by simp;omega
  have Hb:=hid hb
  have HC:=hid hc
  have HK:=hid h
  clear hv hb hc
  go_enter Tryz.func217,Tryz.ntmps217
  go_wp2
  all_goals
   go_ret
   refine ⟨_,rfl,?_,grownBy_setCell' _ _ _,_,bx_set Hb.out _,?_⟩
  ·refine ⟨by rw [List.length_take];omega,.inr ⟨b,o,_,by rw [List.length_take,Nat.min_eq_left HK.out];rfl,by rw [List.length_take];omega,hlim,fun i c hi=>?_⟩⟩
   rw [set_cell_other _ _ _ _ _ hlim]
   exact HC.out i c (take_at hi)
  ·have hk : bs.length = k:=by have:=HK.out;omega
   exact ⟨by rw [List.length_drop];omega,.inl ⟨List.drop_eq_nil_of_le (by omega),_,_,by rw [hk,Nat.sub_self]⟩⟩
  ·refine ⟨by rw [List.length_take];omega,.inr ⟨b,o,_,by rw [List.length_take,Nat.min_eq_left HK.out];rfl,by rw [List.length_take];have:=HK.out;omega,hlim,fun i c hi=>?_⟩⟩
   rw [set_cell_other _ _ _ _ _ hlim]
   exact HC.out i c (take_at hi)
  ·refine ⟨by rw [List.length_drop];omega,.inr ⟨b,o + k,_,by rw [List.length_drop],by rw [List.length_drop];omega,hlim,fun i c hi=>?_⟩⟩
   rw [set_cell_other _ _ _ _ _ hlim,Nat.add_assoc]
   exact HC.out (k + i) c (drop_at hi)
theorem Bs.at {lim : Nat} {w : World} {a : Option Addr} {n cap : Nat} {bs : List UInt8} (h : Bs lim w (.slice a n cap) bs) {k : Nat} {c : UInt8} (hk : bs[k]? = some c) :
  ∃ b o,a = some ⟨b,o,none⟩ ∧ b < lim ∧ w.cell? ⟨b,o + k,none⟩ = some (bv c):=by
 rcases h.2 with ⟨rfl,-⟩|⟨b,o,cap',hv,-,hlim,hc⟩
 ·simp at hk
 ·obtain ⟨rfl,-,-⟩:=Value.slice.inj hv
  exact ⟨b,o,rfl,hlim,hc k c hk⟩
theorem numI_step {l : List UInt8} {k : Nat} {c : UInt8} (h : l[k]? = some c) : Cp.numI (l.take (k + 1)) = wrap64 (Cp.numI (l.take k) * 256 + (c.toNat : Int)):=by
 rw [List.take_add_one,h]
 exact Cp.numI_snoc _ _
set_option maxHeartbeats 400000 in
theorem number_bad (pb k : Nat) (bs : List UInt8) (w : World) (hr : Rdr w pb bs) (h : bs.length < k) (hk : k ≤ 281474976710656) :
  Calls Tryz.prog 213 #[.pointer (some ⟨pb,0,none⟩),.int .i64 k] w fun e w'=>e = pan 30 ∧ w = w':=by
 have HT:=hid (take_bad pb k bs w hr h hk)
 unfold pan at HT ⊢
 clear hr h
 go_enter Tryz.func213,Tryz.ntmps213
 go_wp2_with (go_at_call 217;refine HT.out.mono ?_;rintro e w1 ⟨rfl,rfl⟩)
 exact ⟨rfl,rfl,rfl⟩
set_option maxHeartbeats 400000 in
theorem number_ok (pb k : Nat) (bs : List UInt8) (w : World) (hr : Rdr w pb bs) (h : k ≤ bs.length) :
  Calls Tryz.prog 213 #[.pointer (some ⟨pb,0,none⟩),.int .i64 k] w fun e w'=>e = .returned (.int .i64 (Cp.numI (bs.take k))) ∧ Stp pb (bs.drop k) w w':=by
 have HT:=hid (take_ok pb k bs w hr h)
 have hl : (bs.take k).length = k:=by rw [List.length_take];omega
 have hbl : bs.length ≤ 281474976710656:=by obtain ⟨v,-,hv⟩:=hr;exact hv.1
 obtain ⟨xs,hxs⟩ : ∃ xs,xs = bs.take k:=⟨_,rfl⟩
 rw [← hxs] at HT hl ⊢
 have HX:=hid hxs
 clear hxs hr
 go_enter Tryz.func213,Tryz.ntmps213
 go_wp2_with (go_at_call 217;refine HT.out.mono ?_;rintro e w1 ⟨v,rfl,hv,hs⟩;obtain ⟨a,cap,rfl⟩:=hv.len;have HV:=hid hv;have HS:=hid hs;rw [hl];clear hv hs)
 go_loopw [5,12] (fun n i wr=>∃ j : Nat,j ≤ k ∧ i = .int .i64 j ∧ n = .int .i64 (Cp.numI (xs.take j)) ∧ wr = w1) (fun _ i _=>k - (intOf i).toNat)
 case atStart=>exact ⟨0,by omega,rfl,rfl,rfl⟩
 case round =>
  obtain ⟨j,hj,rfl,rfl,rfl⟩:=hrel
  by_cases hlt : j < k
  ·obtain ⟨c,hc⟩ : ∃ c,xs[j]? = some c:=⟨xs[j],List.getElem?_eq_getElem (by omega)⟩
   obtain ⟨b,o,ha,hb,hcell⟩:=HV.out.at hc
   have HStep:=hid (numI_step hc)
   obtain ⟨z,hz⟩ : ∃ z,z = Cp.numI (xs.take j):=⟨_,rfl⟩
   rw [← hz] at HStep ⊢
   have hor : bits .or .i64 (wrap64 (z * 256)) (c.toNat : Int) = wrap64 (z * 256 + (c.toNat : Int)):=Cp.or_step z c.toNat (Cp.u8_lt c)
   subst ha
   have hji : (j : Int) < k:=by omega
   clear hc hz
   go_wp2
   go_roundw
   case rel=>exact ⟨j + 1,by omega,by go_num,by rw [HStep.out,← hor,show wrap64 (c.toNat : Int) = (c.toNat : Int) by have:=Cp.u8_lt c;unfold wrap64;omega],by trivial⟩
   case measure=>simp [intOf];omega
  ·obtain rfl : j = k:=by omega
   have HE:=hid (show xs.take j = xs from List.take_of_length_le (by omega))
   go_wp2
   go_ret
   exact ⟨by show Ending.returned (.int .i64 (Cp.numI (xs.take j))) = _;rw [HE.out],HS.out⟩
end Go.Proofs.YtnojgiflgmnjlaaGreatDoor.L3
namespace Go.Proofs.YtnojgiflgmnjlaaGreatDoor.L3
open Go.RowKit
theorem bs_conv {lim : Nat} {w : World} {v : Value} {l : List UInt8} (h : Bs lim w v l) : (convert 22 9 v).run Tryz.prog w = .ok (.string ⟨l.toArray⟩) w:=by
 rcases h.2 with ⟨rfl,a,cap,rfl⟩|⟨b,o,cap,rfl,hl,hb,hc⟩
 ·cases a with
  | none=>exact run_convert_bytes_nil w _ _ Tryz.underlying22 Tryz.underlying5 0 cap _ Tryz.underlying9
  | some ad =>
   rw [run_convert_bytes_string w _ _ _ _ 0 cap Tryz.underlying22 Tryz.underlying5 Tryz.underlying9,run_bytesToString w ad 0 cap [] rfl]
   rfl
 ·have:=run_convert_bytes_arg (P:=Tryz.prog) w 22 5 Tryz.underlying22 Tryz.underlying5 b o l.length cap (l.map fun c=>(c.toNat : Int)) (by simp) (fun i hi=>by
   rw [hc i l[i] (List.getElem?_eq_getElem hi)]
   simp [hi]) 9 Tryz.underlying9
  rw [this]
  congr 2
  unfold strOfNums
  congr 2
  rw [List.map_map]
  conv=>rhs;rw [← List.map_id l]
  refine List.map_congr_left fun c _=>?_
  show UInt8.ofNat ((c.toNat : Int)).toNat = c
  simp
theorem grown_refl (w : World) (row : Option Nat) : w.grownBy w row:=⟨rfl,rfl,rfl,Nat.le_refl _,fun _ _ _=>rfl⟩
theorem grown_of_below {w w' : World} (h : Below w.heap.size w w') (row : Option Nat) : w.grownBy w' row:=⟨h.os,h.tape,h.output,h.size,fun i hi _=>h.block i hi⟩
theorem grown_trans {a b c : World} {r : Nat} (h : a.grownBy b (some r)) (k : b.grownBy c (some r)) : a.grownBy c (some r) :=
 ⟨k.os.trans h.os,k.tape.trans h.tape,k.output.trans h.output,Nat.le_trans h.size k.size,fun i hi hne=>(k.block i (Nat.lt_of_lt_of_le hi h.size) hne).trans (h.block i hi hne)⟩
theorem numI_small {l : List UInt8} (h : l.length ≤ 7) : Cp.numI l = Cp.numU l:=by
 have h1:=Cp.numU_range l
 have h2 : (256 : Int) ^ l.length ≤ 72057594037927936:=(show ∀ k : Nat,k < 8 → (256 : Int) ^ k ≤ 72057594037927936 by decide +kernel) _ (by omega)
 rw [Cp.numI_U,Cp.w64]
 omega
theorem numI_2 {l : List UInt8} (h : l.length ≤ 2) : 0 ≤ Cp.numI l ∧ Cp.numI l < 65536:=by
 have h1:=Cp.numU_range l
 have h2 : (256 : Int) ^ l.length ≤ 65536:=(show ∀ k : Nat,k < 3 → (256 : Int) ^ k ≤ 65536 by decide +kernel) _ (by omega)
 rw [numI_small (by omega)]
 omega
theorem str_size (l : List UInt8) : (⟨l.toArray⟩ : ByteArray).size = l.length:=by show l.toArray.size = _;simp
def txP (k : Nat) (bs : List UInt8) : Except Int (List UInt8 × List UInt8) :=
 if bs.length < k then .error 30
 else if 255 < Cp.numI (bs.take k) then .error 32
 else if ((bs.drop k).length : Int) < Cp.numI (bs.take k) then .error 30
 else if Cp.plainB ((bs.drop k).take (Cp.numI (bs.take k)).toNat) = true then .ok ((bs.drop k).take (Cp.numI (bs.take k)).toNat,(bs.drop k).drop (Cp.numI (bs.take k)).toNat)
 else .error 32
def TxPost (pb : Nat) (x : Except Int (List UInt8 × List UInt8)) (w : World) (e : Ending) (w' : World) : Prop:=match x with
 | .error er=>Bad pb er w e w'
 | .ok (s,r)=>e = .returned (.string ⟨s.toArray⟩) ∧ Stp pb r w w'
set_option maxHeartbeats 400000 in
theorem text_any (pb k : Nat) (bs : List UInt8) (w : World) (hr : Rdr w pb bs) (hk : k ≤ 2) :
  Calls Tryz.prog 218 #[.pointer (some ⟨pb,0,none⟩),.int .i64 k] w (TxPost pb (txP k bs) w):=by
 have hbl : bs.length ≤ 281474976710656:=by obtain ⟨v,-,hv⟩:=hr;exact hv.1
 by_cases h1 : bs.length < k
 ·rw [show txP k bs = .error 30 by unfold txP;rw [if_pos h1]]
  unfold TxPost Bad
  have HN:=hid (number_bad pb k bs w hr h1 (by omega))
  unfold pan at HN ⊢
  clear hr h1
  go_enter Tryz.func218,Tryz.ntmps218
  go_wp2_with (go_at_call 213;refine HN.out.mono ?_;rintro e w1 ⟨rfl,rfl⟩)
  exact ⟨rfl,rfl,grown_refl _ _⟩
 ·have HN:=hid (number_ok pb k bs w hr (by omega))
  have hrange : 0 ≤ Cp.numI (bs.take k) ∧ Cp.numI (bs.take k) < 65536:=numI_2 (by rw [List.length_take];omega)
  have hx : txP k bs = (if 255 < Cp.numI (bs.take k) then .error 32 else if ((bs.drop k).length : Int) < Cp.numI (bs.take k) then .error 30 else if Cp.plainB ((bs.drop k).take (Cp.numI (bs.take k)).toNat) = true then .ok ((bs.drop k).take (Cp.numI (bs.take k)).toNat,(bs.drop k).drop (Cp.numI (bs.take k)).toNat) else .error 32):=by unfold txP;rw [if_neg h1]
  have hdl : (bs.drop k).length ≤ 281474976710656:=by rw [List.length_drop];omega
  obtain ⟨n,hn⟩ : ∃ n,n = Cp.numI (bs.take k):=⟨_,rfl⟩
  obtain ⟨r,hrr⟩ : ∃ r,r = bs.drop k:=⟨_,rfl⟩
  rw [← hn] at HN hrange hx
  rw [← hrr] at HN hx hdl
  rw [hx]
  clear hx hn hrr hr h1
  obtain ⟨n,rfl⟩:=Int.eq_ofNat_of_zero_le hrange.1
  rw [show ((n : Int)).toNat = n by omega]
  by_cases h2 : 255 < (n : Int)
  ·rw [if_pos h2]
   unfold TxPost Bad pan
   have hd : decide (255 < (n : Int)) = true:=by simpa using h2
   clear h2
   go_enter Tryz.func218,Tryz.ntmps218
   go_wp2_with (go_at_call 213;refine HN.out.mono ?_;rintro e w1 ⟨rfl,hs1⟩)
   exact ⟨rfl,rfl,hs1.1⟩
  ·rw [if_neg h2]
   have hd : decide (255 < (n : Int)) = false:=by simp;omega
   by_cases h3 : ((r.length : Nat) : Int) < (n : Int)
   ·rw [if_pos h3]
    unfold TxPost Bad
    have HT:=hid (fun W (h : Rdr W pb r)=>take_bad pb n r W h (by omega) (by omega))
    unfold pan at HT ⊢
    clear h2 h3
    go_enter Tryz.func218,Tryz.ntmps218
    go_wp2_with (first
     | (go_at_call 213;refine HN.out.mono ?_;rintro e w1 ⟨rfl,hs1⟩)
     | (go_at_call 217;refine (HT.out _ hs1.2).mono ?_;rintro e w2 ⟨rfl,rfl⟩))
    exact ⟨rfl,rfl,hs1.1⟩
   ·rw [if_neg h3]
    have HT:=hid (fun W (h : Rdr W pb r)=>take_ok pb n r W h (by omega))
    have hl : (r.take n).length = n:=by rw [List.length_take];omega
    have HP0:=fun W=>isPlain_any ⟨(r.take n).toArray⟩ W (by rw [str_size];omega)
    rw [show Cp.bl ⟨(r.take n).toArray⟩ = r.take n from rfl] at HP0
    obtain ⟨s,hs⟩ : ∃ s,s = r.take n:=⟨_,rfl⟩
    rw [← hs] at HT HP0 hl ⊢
    cases hp : Cp.plainB s with
    | true =>
     rw [if_pos rfl]
     rw [hp] at HP0
     have HP:=hid HP0
     unfold TxPost
     clear HP0 hp hs h2 h3
     go_enter Tryz.func218,Tryz.ntmps218
     go_wp2_with (first
      | (go_at_call 213;refine HN.out.mono ?_;rintro e w1 ⟨rfl,hs1⟩)
      | (go_at_call 217;refine (HT.out _ hs1.2).mono ?_;rintro e w2 ⟨v2,rfl,hv2,hs2⟩;obtain ⟨sa,sc,rfl⟩:=hv2.len;have hcv:=bs_conv hv2;rw [hl] at hcv)
      | (go_at_call 190;refine (HP.out _).mono ?_;rintro e w3 ⟨rfl,rfl⟩))
     go_ret
     exact ⟨rfl,grown_trans hs1.1 hs2.1,hs2.2⟩
    | false =>
     rw [if_neg (by simp)]
     rw [hp] at HP0
     have HP:=hid HP0
     unfold TxPost Bad pan
     clear HP0 hp hs h2 h3
     go_enter Tryz.func218,Tryz.ntmps218
     go_wp2_with (first
      | (go_at_call 213;refine HN.out.mono ?_;rintro e w1 ⟨rfl,hs1⟩)
      | (go_at_call 217;refine (HT.out _ hs1.2).mono ?_;rintro e w2 ⟨v2,rfl,hv2,hs2⟩;obtain ⟨sa,sc,rfl⟩:=hv2.len;have hcv:=bs_conv hv2;rw [hl] at hcv)
      | (go_at_call 190;refine (HP.out _).mono ?_;rintro e w3 ⟨rfl,rfl⟩))
     exact ⟨rfl,rfl,grown_trans hs1.1 hs2.1⟩
end Go.Proofs.YtnojgiflgmnjlaaGreatDoor.L3
namespace Go.Proofs.YtnojgiflgmnjlaaGreatDoor.L3
open Go.RowKit
theorem wd_out {k : Nat} (h : 13 ≤ k) : Cp.wd (k : Int) = (0,0,0,0) ∧ Cp.knownB (k : Int) = false:=by
 refine ⟨?_,?_⟩
 ·unfold Cp.wd
  rw [if_neg (by omega),if_neg (by omega),if_neg (by omega),if_neg (by omega),if_neg (by omega)]
 ·unfold Cp.knownB
  rw [decide_eq_false_iff_not]
  omega
theorem widthsOf_any (k : Nat) (w : World) (ht : Tabs w) : Calls Tryz.prog 144 #[.int .i64 k] w fun e w'=>e = .returned (.tuple #[.agg #[.int .i64 (Cp.wd k).1,.int .i64 (Cp.wd k).2.1,.int .i64 (Cp.wd k).2.2.1,.int .i64 (Cp.wd k).2.2.2],.bool (Cp.knownB k)]) ∧ Below w.heap.size w w':=by
 by_cases h : k < 13
 ·exact widthsOf_in k w h ht
 ·obtain ⟨h1,h2⟩:=wd_out (k:=k) (by omega)
  rw [h1,h2]
  exact widthsOf_out k w (.inr (by omega))
theorem numI_one (c : UInt8) : Cp.numI [c] = (c.toNat : Int):=by
 have:=Cp.u8_lt c
 unfold Cp.numI
 rw [List.foldl_cons,List.foldl_nil,Cp.w64]
 omega
def sgn (z : Int) (k : Nat) : Int:=if k = 0 then 0 else if k = 4 then IntKind.i32.wrap z else IntKind.i64.wrap z
theorem signed_any (z : Int) (k : Nat) (w : World) (hk : k = 0 ∨ k = 4 ∨ k = 8) : Calls Tryz.prog 202 #[.int .i64 z,.int .i64 k] w fun e w'=>e = .returned (.int .i64 (sgn z k)) ∧ w = w':=by
 rcases hk with rfl|rfl|rfl
 ·exact signed_0 z w
 ·exact signed_4 z w
 ·exact signed_8 z w
theorem wd_n (t : Int) : (Cp.wd t).2.1 = 0 ∨ (Cp.wd t).2.1 = 4 ∨ (Cp.wd t).2.1 = 8:=by
 unfold Cp.wd
 repeat' split
 all_goals simp
theorem wd_le (t : Int) : (Cp.wd t).1 ≤ 2 ∧ (Cp.wd t).2.1 ≤ 8 ∧ (Cp.wd t).2.2.1 ≤ 2 ∧ (Cp.wd t).2.2.2 ≤ 2:=by
 unfold Cp.wd
 repeat' split
 all_goals simp
def BX (w : World) (B : Nat) (cs : Array Value) (T : TypeId) : Prop:=w.heap[B]? = some (.cells cs T (0,0))
theorem BX.new (w : World) (cs : Array Value) (T : TypeId) : BX (w.alloc (.cells cs T)) w.heap.size cs T:=by
 show (w.heap.push _)[w.heap.size]? = _
 rw [Array.getElem?_push_size]
theorem BX.sz {w : World} {B : Nat} {cs : Array Value} {T : TypeId} (h : BX w B cs T) : B < w.heap.size:=(Array.getElem?_eq_some_iff.1 h).1
theorem BX.below {w w' : World} {B n : Nat} {cs : Array Value} {T : TypeId} (h : BX w B cs T) (hb : Below n w w') (hn : B < n) : BX w' B cs T:=(hb.block B hn).trans h
theorem BX.grown {w w' : World} {B : Nat} {cs : Array Value} {T : TypeId} {row : Option Nat} (h : BX w B cs T) (hg : w.grownBy w' row) (hne : row ≠ some B) : BX w' B cs T:=(hg.block B h.sz (fun e=>hne e.symm)).trans h
theorem BX.cell {w : World} {B : Nat} {cs : Array Value} {T : TypeId} (h : BX w B cs T) (j : Nat) : w.cell? ⟨B,j,none⟩ = cs[j]?:=by simp [World.cell?,show w.heap[B]? = _ from h]
theorem BX.cells7 {w : World} {B : Nat} {a0 a1 a2 a3 a4 a5 a6 : Value} {T : TypeId} (h : BX w B #[a0,a1,a2,a3,a4,a5,a6] T) : w.cell? ⟨B,0,none⟩ = some a0 ∧ w.cell? ⟨B,1,none⟩ = some a1 ∧ w.cell? ⟨B,2,none⟩ = some a2 ∧ w.cell? ⟨B,3,none⟩ = some a3 ∧ w.cell? ⟨B,4,none⟩ = some a4 ∧ w.cell? ⟨B,5,none⟩ = some a5 ∧ w.cell? ⟨B,6,none⟩ = some a6:=⟨h.cell 0,h.cell 1,h.cell 2,h.cell 3,h.cell 4,h.cell 5,h.cell 6⟩
theorem BX.cells8 {w : World} {B : Nat} {a0 a1 a2 a3 a4 a5 a6 a7 : Value} {T : TypeId} (h : BX w B #[a0,a1,a2,a3,a4,a5,a6,a7] T) : w.cell? ⟨B,0,none⟩ = some a0 ∧ w.cell? ⟨B,1,none⟩ = some a1 ∧ w.cell? ⟨B,2,none⟩ = some a2 ∧ w.cell? ⟨B,3,none⟩ = some a3 ∧ w.cell? ⟨B,4,none⟩ = some a4 ∧ w.cell? ⟨B,5,none⟩ = some a5 ∧ w.cell? ⟨B,6,none⟩ = some a6 ∧ w.cell? ⟨B,7,none⟩ = some a7:=⟨h.cell 0,h.cell 1,h.cell 2,h.cell 3,h.cell 4,h.cell 5,h.cell 6,h.cell 7⟩
theorem BX.frozen {w : World} {B : Nat} {cs : Array Value} {T : TypeId} (h : BX w B cs T) (j : Nat) : w.frozen? ⟨B,j,none⟩ = false:=by simp [World.frozen?,show w.heap[B]? = _ from h]
theorem BX.set {w : World} {B : Nat} {cs : Array Value} {T : TypeId} (h : BX w B cs T) (j : Nat) (u : Value) : BX (w.setCell ⟨B,j,none⟩ u) B (cs.setIfInBounds j u) T:=by
 obtain ⟨hlt,hk⟩:=Array.getElem?_eq_some_iff.1 h
 show (w.heap.modify B _)[B]? = _
 rw [Array.getElem?_eq_getElem (by rw [Array.size_modify];exact hlt),Array.getElem_modify_self,hk]
 rfl
theorem Rdr.grown {w w' : World} {pb : Nat} {bs : List UInt8} {row : Option Nat} (h : Rdr w pb bs) (hg : w.grownBy w' row) (hne : ∀ k,row = some k → pb < k) : Rdr w' pb bs:=by
 have hs:=h.sz
 obtain ⟨v,h,k⟩:=h
 have hb:=fun b (hb : b ≤ pb)=>hg.block b (by omega) (fun e=>by have:=hne b e.symm;omega)
 exact ⟨v,(hb pb (Nat.le_refl _)).trans h,k.same fun b o hl=>World.cell?_of_block (hb b (by omega))⟩
theorem set_grown (w : World) (B j : Nat) (u : Value) : w.grownBy (w.setCell ⟨B,j,none⟩ u) (some B):=⟨rfl,rfl,rfl,by simp,fun i _ hne=>Below.heap_setCell _ _ _ i (fun e=>hne (by rw [e]))⟩
def cC (c : Cp.C) : Array Value:=#[.int .i64 c.t,.string c.s,.int .i64 c.n,.int .i64 c.a,.int .i64 c.b]
structure EnSt (pb B4 B5 B6 : Nat) (w wr : World) (bs : List UInt8) (c : Cp.C) (x : Array Value) : Prop where
 rd : Rdr wr pb bs
 b4 : BX wr B4 (cC Cp.C0) 56
 b5 : BX wr B5 (cC c) 56
 b6 : BX wr B6 x 169
 gr : w.grownBy wr (some pb)
 l0 : pb < w.heap.size
 l4 : w.heap.size ≤ B4
 l45 : B4 < B5
 l56 : B5 < B6
theorem EnSt.stp {pb B4 B5 B6 : Nat} {w wr w' : World} {bs bs' : List UInt8} {c : Cp.C} {x : Array Value} (h : EnSt pb B4 B5 B6 w wr bs c x) (hs : Stp pb bs' wr w') : EnSt pb B4 B5 B6 w w' bs' c x:=by
 have:=h.l0;have:=h.l4;have:=h.l45;have:=h.l56
 exact ⟨hs.2,h.b4.grown hs.1 (by simp;omega),h.b5.grown hs.1 (by simp;omega),h.b6.grown hs.1 (by simp;omega),grown_trans h.gr hs.1,h.l0,h.l4,h.l45,h.l56⟩
theorem EnSt.set {pb B4 B5 B6 : Nat} {w wr : World} {bs : List UInt8} {c : Cp.C} {x : Array Value} (h : EnSt pb B4 B5 B6 w wr bs c x) (j : Nat) (u : Value) (c' : Cp.C) (hc : (cC c).setIfInBounds j u = cC c') : EnSt pb B4 B5 B6 w (wr.setCell ⟨B5,j,none⟩ u) bs c' x:=by
 have:=h.l0;have:=h.l4;have:=h.l45;have:=h.l56
 have hg:=set_grown wr B5 j u
 refine ⟨h.rd.grown hg (fun k e=>by have:=Option.some.inj e;omega),h.b4.grown hg (by simp;omega),?_,h.b6.grown hg (by simp;omega),?_,h.l0,h.l4,h.l45,h.l56⟩
 ·rw [← hc];exact h.b5.set j u
 ·exact ⟨h.gr.os,h.gr.tape,h.gr.output,by rw [World.size_setCell];exact h.gr.size,fun i hi hne=>(hg.block i (Nat.lt_of_lt_of_le hi h.gr.size) (fun e=>by have:=Option.some.inj e;omega)).trans (h.gr.block i hi hne)⟩
theorem EnSt.drew {pb B4 B5 B6 : Nat} {w wr : World} {bs : List UInt8} {c : Cp.C} {x : Array Value} (h : EnSt pb B4 B5 B6 w wr bs c x) : EnSt pb B4 B5 B6 w wr.drew bs c x :=
 ⟨h.rd.grown (row:=none) ⟨rfl,rfl,rfl,Nat.le_refl _,fun _ _ _=>rfl⟩ (fun k e=>by cases e),h.b4,h.b5,h.b6,⟨h.gr.os,h.gr.tape,h.gr.output,h.gr.size,h.gr.block⟩,h.l0,h.l4,h.l45,h.l56⟩
def enP (room : Int) : List UInt8 → Except Int (Cp.C × List UInt8)
 | []=>.error 30
 | c :: r =>
  if Cp.knownB (c.toNat : Int) = false ∨ ((c.toNat : Int) = 5 ∧ room < 2) then .error 31
  else match txP (Cp.wd (c.toNat : Int)).1 r with
   | .error e=>.error e
   | .ok (s,r1) =>
    if r1.length < (Cp.wd (c.toNat : Int)).2.1 then .error 30
    else if (r1.drop (Cp.wd (c.toNat : Int)).2.1).length < (Cp.wd (c.toNat : Int)).2.2.1 then .error 30
    else if ((r1.drop (Cp.wd (c.toNat : Int)).2.1).drop (Cp.wd (c.toNat : Int)).2.2.1).length < (Cp.wd (c.toNat : Int)).2.2.2 then .error 30
    else .ok (⟨(c.toNat : Int),⟨s.toArray⟩,sgn (Cp.numI (r1.take (Cp.wd (c.toNat : Int)).2.1)) (Cp.wd (c.toNat : Int)).2.1,Cp.numI ((r1.drop (Cp.wd (c.toNat : Int)).2.1).take (Cp.wd (c.toNat : Int)).2.2.1),Cp.numI (((r1.drop (Cp.wd (c.toNat : Int)).2.1).drop (Cp.wd (c.toNat : Int)).2.2.1).take (Cp.wd (c.toNat : Int)).2.2.2)⟩,
     ((r1.drop (Cp.wd (c.toNat : Int)).2.1).drop (Cp.wd (c.toNat : Int)).2.2.1).drop (Cp.wd (c.toNat : Int)).2.2.2)
end Go.Proofs.YtnojgiflgmnjlaaGreatDoor.L3
