/- Own texts for the claim, part 4. -/
import Derived.Test.YtnojgiflgmnjlaaGreatDoorZD3
import Derived.Deep.WholeRow
import Derived.Deep.OwnRows
import Derived.Deep.LoopGhost
import Derived.Lib.SliceRun
import Derived.Test.YtnojgiflgmnjlaaGreatDoorChecked
set_option maxRecDepth 100000
namespace Go.Proofs.YtnojgiflgmnjlaaGreatDoor
open Go.RowKit
theorem hid {p : Prop} (h : p) : Hid p:=h
theorem belows {B : Nat} {a b c : World} (h : Below B a b) (k : Below b.heap.size b c) (hB : B ≤ b.heap.size) : Below B a c:=h.trans (k.mono hB)
theorem belows_drewN {B : Nat} {a b : World} (h : Below B a b) (n : Nat) : Below B a (b.drewN n):=⟨h.os,h.tape,h.output,h.size,h.block⟩
theorem bcell {W w1 : World} (hb : Below W.heap.size W w1) : (∀ b o,b < W.heap.size → w1.cell? ⟨b,o,none⟩ = W.cell? ⟨b,o,none⟩) ∧ (∀ b o,b < W.heap.size → w1.frozen? ⟨b,o,none⟩ = W.frozen? ⟨b,o,none⟩) :=
 ⟨fun b o h=>hb.cell (p:=⟨b,o,none⟩) h,fun b o h=>hb.frozen (p:=⟨b,o,none⟩) h⟩
abbrev bl (s : ByteArray) : List UInt8:=s.data.toList
namespace Cf
structure Hn where
 f : Int
 t : Int
 a : Int
 y : Int
deriving DecidableEq
structure Mb where
 ac : Int
 nm : Int
 ds : Int
 st : Int
 lc : Int
 code : List UInt8
 hs : List Hn
deriving DecidableEq
structure Cl where
 mi : Int
 ma : Int
 pool : List L3.Cp.C
 ac : Int
 th : Int
 su : Int
 fs : List Mb
 ms : List Mb
deriving DecidableEq
def M0 : Mb:=⟨0,0,0,0,0,[],[]⟩
def K0 : Cl:=⟨0,0,[],0,0,0,[],[]⟩
def verB (mi ma : Int) : Bool:=decide (mi = 0 ∧ 45 ≤ ma ∧ ma ≤ 52)
def codeS : ByteArray:=⟨#[67,111,100,101]⟩
def codeC : L3.Cp.C:=⟨1,codeS,0,0,0⟩
abbrev Ps (α : Type):=List UInt8 → Except Int (α × List UInt8)
def ret {α : Type} (a : α) : Ps α:=fun l=>.ok (a,l)
def bnd {α β : Type} (x : Ps α) (f : α → Ps β) : Ps β:=fun l=>match x l with
 | .error e=>.error e
 | .ok (a,r)=>f a r
theorem bnd_err {α β : Type} {x : Ps α} {f : α → Ps β} {l : List UInt8} {e : Int} (h : x l = .error e) : bnd x f l = .error e:=by unfold bnd;rw [h]
theorem bnd_ok {α β : Type} {x : Ps α} {f : α → Ps β} {l r : List UInt8} {a : α} (h : x l = .ok (a,r)) : bnd x f l = f a r:=by unfold bnd;rw [h]
def want (b : Bool) (e : Int) : Ps Unit:=fun l=>if b = true then .ok ((),l) else .error e
def u2 : Ps Int
 | a :: b :: r=>.ok ((a.toNat : Int) * 256 + (b.toNat : Int),r)
 | _=>.error 30
def u4 : Ps Int:=bnd u2 fun h=>bnd u2 fun l=>ret (h * 65536 + l)
def takeP (n : Nat) : Ps (List UInt8):=fun l=>if n ≤ l.length then .ok (l.take n,l.drop n) else .error 30
def noneP : Ps Unit:=bnd u2 fun n=>want (n == 0) 43
def listP {α : Type} (p : Ps α) : Nat → Ps (List α)
 | 0=>ret []
 | n + 1=>bnd p fun a=>bnd (listP p n) fun l=>ret (a :: l)
def listN {α : Type} (p : Ps α) : Ps (List α):=bnd u2 fun k=>listP p k.toNat
def hnP : Ps Hn:=bnd u2 fun f=>bnd u2 fun t=>bnd u2 fun a=>bnd u2 fun y=>ret ⟨f,t,a,y⟩
def mbP : Ps Mb:=bnd u2 fun a=>bnd u2 fun n=>bnd u2 fun d=>ret ⟨a,n,d,0,0,[],[]⟩
def fdP : Ps Mb:=bnd mbP fun m=>bnd noneP fun _=>ret m
def cix (P : List L3.Cp.C) : Nat:=match (P.drop 1).findIdx? (fun c=>c == codeC) with
 | some j=>j + 1
 | none=>0
def bodyP (m : Mb) : Ps Mb:=bnd u2 fun st=>bnd u2 fun lc=>bnd u4 fun n=>bnd (takeP n.toNat) fun code=>bnd (listN hnP) fun hs=>bnd noneP fun _=>ret { m with st:=st,lc:=lc,code:=code,hs:=hs }
def sizedP (n : Int) (m : Mb) : Ps Mb:=fun l=>match bodyP m l with
 | .error e=>.error e
 | .ok (x,r)=>if n = (l.length : Int) - (r.length : Int) then .ok (x,r) else .error 43
def meP (code : Int) : Ps Mb:=bnd mbP fun m=>bnd u2 fun n=>bnd (want (n == 1) 43) fun _=>bnd u2 fun i=>bnd (want (decide (i = code ∧ i ≠ 0)) 43) fun _=>bnd u4 fun size=>sizedP size m
def poolP : Ps (List L3.Cp.C):=fun l=>L3.plP l
def leftP : Ps Unit:=fun l=>if l = [] then .ok ((),l) else .error 44
def clP : Ps Cl:=bnd u4 fun mg=>bnd (want (mg == 3405691582) 40) fun _=>bnd u2 fun mi=>bnd u2 fun ma=>bnd (want (verB mi ma) 41) fun _=>bnd poolP fun P =>
 bnd u2 fun ac=>bnd u2 fun th=>bnd u2 fun su=>bnd noneP fun _=>bnd (listN fdP) fun fs=>bnd (listN (meP (cix P))) fun ms=>bnd noneP fun _=>bnd leftP fun _ =>
 ret ⟨mi,ma,P,ac,th,su,fs,ms⟩
end Cf
end Go.Proofs.YtnojgiflgmnjlaaGreatDoor
namespace Go.Proofs.YtnojgiflgmnjlaaGreatDoor.Kit
open Go
def Reads {α : Type} (x : Sem α) : Prop:=∀ (P : Program) (w : World) (v : α) (w' : World),x.run P w = .ok v w' → w' = w
theorem Reads.pure {α : Type} (a : α) : Reads (Sem.pure a):=fun _ _ _ _ h=>by
 simp only [Sem.run,Result.ok.injEq] at h;exact h.2.symm
theorem Reads.halt {α : Type} (h : Halt) : Reads (Sem.halt (α:=α) h):=fun _ _ _ _ h=>by simp [Sem.run] at h
theorem Reads.bind {α β : Type} {x : Sem α} {f : α → Sem β} (hx : Reads x) (hf : ∀ a,Reads (f a)) : Reads (x >>= f):=by
 intro P w v w' h
 rw [Sem.run_bind] at h
 cases hr : x.run P w with
 | halt h1 w1=>rw [hr] at h;simp at h
 | ok a w1 =>
  rw [hr] at h
  simp only [Result.andThen_ok] at h
  have h1:=hx P w a w1 hr
  subst h1
  exact hf a P _ v w' h
theorem Reads.program {α : Type} (k : Program → Sem α) (hk : ∀ p,Reads (k p)) : Reads (Sem.program k):=fun P w v w' h=>by
 simp only [Sem.run] at h;exact hk P P w v w' h
theorem Reads.load {α : Type} (m : Mode) (a : Addr) (k : Value → Sem α) (hk : ∀ v,Reads (k v)) : Reads (Sem.load m a k):=fun P w v w' h=>by
 simp only [Sem.run] at h
 split at h
 ·exact hk _ P w v w' h
 ·split at h
  ·exact hk _ P w v w' h
  ·cases h
theorem reads_typeInfo (t : TypeId) : Reads (typeInfo t):=by
 refine Reads.bind (.program _ fun p=>.pure p) fun p=>?_
 split
 ·exact .pure _
 ·exact .halt _
theorem reads_underlying (t : TypeId) : Reads (underlying t):=by
 refine Reads.bind (.program _ fun p=>.pure p) fun p=>?_
 split
 ·exact .pure _
 ·exact .halt _
theorem reads_isAgg (t : TypeId) : Reads (isAgg t):=by
 refine (reads_underlying t).bind fun d=>?_
 split <;> exact .pure _
theorem reads_loadCellsFrom (a : Addr) : ∀ (n i : Nat) (acc : Array Value),Reads (loadCellsFrom a i n acc)
 | 0,_,acc=>.pure acc
 | n + 1,i,acc=>by
  unfold loadCellsFrom
  exact Reads.bind (.load _ _ _ fun v=>.pure v) fun v=>reads_loadCellsFrom a n (i + 1) _
theorem reads_loadVar (t : TypeId) (a : Addr) : Reads (loadVar t a):=by
 unfold loadVar
 refine (reads_isAgg t).bind fun b=>?_
 split
 ·exact ((reads_typeInfo t).bind fun i=>.pure _).bind fun n=>(reads_loadCellsFrom a n 0 #[]).bind fun cs=>.pure _
 ·exact .load _ _ _ fun v=>.pure v
theorem reads_asAddr (v : Value) : Reads (asAddr v):=by
 unfold asAddr
 split
 ·exact .pure _
 ·intro P w v w' h;simp [runtimePanic] at h
 ·exact .halt _
theorem reads_mapM {α β : Type} {f : α → Sem β} (hf : ∀ a,Reads (f a)) : ∀ l : List α,Reads (l.mapM f)
 | []=>.pure []
 | a :: l=>by
  rw [List.mapM_cons]
  exact (hf a).bind fun b=>(reads_mapM hf l).bind fun bs=>.pure _
theorem reads_results (fn : Func) (tmps : Array Value) : Reads (results fn tmps):=by
 unfold results
 refine Reads.bind ?_ fun vs=>.pure _
 rw [Array.mapM_eq_mapM_toList]
 refine Reads.bind (reads_mapM (fun r=>?_) _) fun vs=>.pure _
 split
 ·exact .pure _
 ·exact (reads_asAddr _).bind fun a=>reads_loadVar _ _
mutual
def runL (P : Program) (ops : Array Oper) : Nat → List Oper → Act → World → Option (Act × World)
 | 0,_,_,_=>none
 | _ + 1,[],a,w=>some (a,w)
 | n + 1,o :: rest,a,w =>
  if Region.wanted o (yielded ops a.tmps) then
   match (execOp a.eval o).run P w with
   | .ok (.value v) w'=>runL P ops n rest (a.put o.dst v) w'
   | .ok .skip w'=>runL P ops n rest (a.put o.dst undef) w'
   | .ok (.enter f args) w' =>
    match runF P n f args w' with
    | some (v,w'')=>runL P ops n rest (a.put o.dst v) w''
    | none=>none
   | _=>none
  else runL P ops n rest (a.put o.dst undef) w
def runC (P : Program) : Nat → Code → Act → World → Option (Exit × Act × World)
 | 0,_,_,_=>none
 | _ + 1,.skip,a,w=>some (.normal,a,w)
 | _ + 1,.exit id,a,w=>some (.exit id,a,w)
 | _ + 1,.ret,a,w=>some (.ret,a,w)
 | n + 1,.region _ ops false,a,w =>
  match runL P ops n ops.toList a w with
  | some (a',w')=>some (.normal,a',w')
  | none=>none
 | n + 1,.seq x y,a,w =>
  match runC P n x a w with
  | some (.normal,a',w')=>runC P n y a' w'
  | r=>r
 | n + 1,.cond c x y,a,w =>
  match a.eval c with
  | .bool true=>runC P n x a w
  | .bool false=>runC P n y a w
  | _=>none
 | n + 1,.block id x,a,w =>
  match runC P n x a w with
  | some (.exit id',a',w')=>if id' = id then some (.normal,a',w') else some (.exit id',a',w')
  | r=>r
 | _ + 1,_,_,_=>none
def runF (P : Program) : Nat → FuncId → Array Value → World → Option (Value × World)
 | 0,_,_,_=>none
 | n + 1,f,args,w =>
  match P.funcs[f]? with
  | none=>none
  | some fn =>
   match fn.body with
   | none=>none
   | some c =>
    match runC P n c { tmps:=args ++ Array.replicate (fn.ntmps - args.size) undef,defers:=[] } w with
    | some (.normal,a,w')|some (.ret,a,w') =>
     match a.defers,(results fn a.tmps).run P w' with
     | [],.ok v _=>some (v,w')
     | _,_=>none
    | _=>none
end
section
variable {P : Program}
theorem run_all : ∀ n : Nat,
  (∀ {ops : Array Oper} {l : List Oper} {a : Act} {w : World} {a' : Act} {w' : World} {Q : Exit → Act → World → Prop},
   runL P ops n l a w = some (a',w') → Q .normal a' w' → wpList P ops Q l a w) ∧
  (∀ {c : Code} {a : Act} {w : World} {e : Exit} {a' : Act} {w' : World} {Q : Exit → Act → World → Prop},
   runC P n c a w = some (e,a',w') → Q e a' w' → c.wp P Q a w) ∧
  (∀ {f : FuncId} {args : Array Value} {w : World} {v : Value} {w' : World},
   runF P n f args w = some (v,w') → Calls P f args w fun e w''=>e = .returned v ∧ w'' = w'):=by
 intro n
 induction n with
 | zero =>
  refine ⟨?_,?_,?_⟩
  ·intro ops l a w a' w' Q h;simp [runL] at h
  ·intro c a w e a' w' Q h;simp [runC] at h
  ·intro f args w v w' h;simp [runF] at h
 | succ n ih =>
  obtain ⟨ihL,ihC,ihF⟩:=ih
  refine ⟨?_,?_,?_⟩
  ·intro ops l a w a' w' Q h hQ
   cases l with
   | nil =>
    simp only [runL,Option.some.injEq,Prod.mk.injEq] at h
    obtain ⟨rfl,rfl⟩:=h
    exact hQ
   | cons o rest =>
    simp only [runL] at h
    unfold wpList
    split at h
    ·rename_i hw
     rw [if_pos hw]
     left
     unfold Oper.wp
     split at h
     ·rename_i he
      rw [he,Oper.upon_value]
      exact ihL h hQ
     ·rename_i he
      rw [he,Oper.upon_skip]
      exact ihL h hQ
     ·rename_i he
      rw [he,Oper.upon_enter]
      split at h
      ·rename_i hr
       refine (ihF hr).mono ?_
       rintro e w1 ⟨rfl,rfl⟩
       exact ihL h hQ
      ·cases h
     ·cases h
    ·rename_i hw
     rw [if_neg hw]
     exact ihL h hQ
  ·intro c a w e a' w' Q h hQ
   cases c <;> try (simp [runC] at h;done)
   case skip=>simp only [runC,Option.some.injEq,Prod.mk.injEq] at h;obtain ⟨rfl,rfl,rfl⟩:=h;exact wp_skip hQ
   case exit id=>simp only [runC,Option.some.injEq,Prod.mk.injEq] at h;obtain ⟨rfl,rfl,rfl⟩:=h;exact wp_exit hQ
   case ret=>simp only [runC,Option.some.injEq,Prod.mk.injEq] at h;obtain ⟨rfl,rfl,rfl⟩:=h;exact wp_ret hQ
   case region id ops draw =>
    cases draw with
    | true=>simp [runC] at h
    | false =>
     simp only [runC] at h
     split at h
     ·rename_i hr
      simp only [Option.some.injEq,Prod.mk.injEq] at h
      obtain ⟨rfl,rfl,rfl⟩:=h
      exact wp_region_list (ihL hr hQ)
     ·cases h
   case seq x y =>
    simp only [runC] at h
    split at h
    ·rename_i hr
     exact wp_seq (ihC hr (ihC h hQ))
    ·rename_i hr
     refine wp_seq (ihC h ?_)
     cases e <;> first|exact hQ|skip
     exact absurd h (hr _ _)
   case cond c x y =>
    simp only [runC] at h
    split at h
    ·rename_i hc;exact wp_cond_true hc (ihC h hQ)
    ·rename_i hc;exact wp_cond_false hc (ihC h hQ)
    ·cases h
   case block id x =>
    simp only [runC] at h
    split at h
    ·rename_i id' a1 w1 hr
     refine wp_block (ihC hr ?_)
     split at h
     ·rename_i hid
      simp only [Option.some.injEq,Prod.mk.injEq] at h
      obtain ⟨rfl,rfl,rfl⟩:=h
      simp only [Exit.inBlock,if_pos hid];exact hQ
     ·rename_i hid
      simp only [Option.some.injEq,Prod.mk.injEq] at h
      obtain ⟨rfl,rfl,rfl⟩:=h
      simp only [Exit.inBlock,if_neg hid];exact hQ
    ·rename_i hr
     refine wp_block (ihC h ?_)
     cases e <;> first|exact hQ|skip
     exact absurd h (hr _ _ _)
  ·intro f args w v w' h
   simp only [runF] at h
   split at h
   ·cases h
   ·rename_i fn hf
    split at h
    ·cases h
    ·rename_i c hb
     refine calls_of_wp hf hb ?_
     split at h
     ·rename_i a1 w1 hr
      split at h
      ·rename_i v1 w2 hd hv
       simp only [Option.some.injEq,Prod.mk.injEq] at h
       obtain ⟨rfl,rfl⟩:=h
       have:=reads_results fn a1.tmps _ _ _ _ hv
       subst this
       exact ihC hr ⟨hd,_,hv,rfl,rfl⟩
      ·cases h
     ·rename_i a1 w1 hr
      split at h
      ·rename_i v1 w2 hd hv
       simp only [Option.some.injEq,Prod.mk.injEq] at h
       obtain ⟨rfl,rfl⟩:=h
       have:=reads_results fn a1.tmps _ _ _ _ hv
       subst this
       exact ihC hr ⟨hd,_,hv,rfl,rfl⟩
      ·cases h
     ·cases h
theorem calls_run {f : FuncId} {args : Array Value} {w : World} {v : Value} {w' : World} (n : Nat) (h : runF P n f args w = some (v,w')) :
  Calls P f args w fun e w''=>e = .returned v ∧ w'' = w':=(run_all n).2.2 h
end
end Go.Proofs.YtnojgiflgmnjlaaGreatDoor.Kit
namespace Go.Proofs.YtnojgiflgmnjlaaGreatDoor.L1.Op1
def rows : List (Nat × List UInt8 × Nat):=[
 (0,[110,111,112],0),
 (1,[97,99,111,110,115,116,95,110,117,108,108],0),
 (2,[105,99,111,110,115,116,95,109,49],0),
 (3,[105,99,111,110,115,116,95,48],0),
 (4,[105,99,111,110,115,116,95,49],0),
 (5,[105,99,111,110,115,116,95,50],0),
 (6,[105,99,111,110,115,116,95,51],0),
 (7,[105,99,111,110,115,116,95,52],0),
 (8,[105,99,111,110,115,116,95,53],0),
 (9,[108,99,111,110,115,116,95,48],0),
 (10,[108,99,111,110,115,116,95,49],0),
 (16,[98,105,112,117,115,104],2),
 (17,[115,105,112,117,115,104],3),
 (18,[108,100,99],4),
 (20,[108,100,99,50,95,119],5),
 (21,[105,108,111,97,100],1),
 (22,[108,108,111,97,100],1),
 (25,[97,108,111,97,100],1),
 (26,[105,108,111,97,100,95,48],0),
 (27,[105,108,111,97,100,95,49],0),
 (28,[105,108,111,97,100,95,50],0),
 (29,[105,108,111,97,100,95,51],0),
 (30,[108,108,111,97,100,95,48],0),
 (31,[108,108,111,97,100,95,49],0),
 (32,[108,108,111,97,100,95,50],0),
 (33,[108,108,111,97,100,95,51],0),
 (42,[97,108,111,97,100,95,48],0),
 (43,[97,108,111,97,100,95,49],0),
 (44,[97,108,111,97,100,95,50],0),
 (45,[97,108,111,97,100,95,51],0),
 (46,[105,97,108,111,97,100],0),
 (47,[108,97,108,111,97,100],0),
 (50,[97,97,108,111,97,100],0),
 (54,[105,115,116,111,114,101],1),
 (55,[108,115,116,111,114,101],1),
 (58,[97,115,116,111,114,101],1),
 (59,[105,115,116,111,114,101,95,48],0),
 (60,[105,115,116,111,114,101,95,49],0),
 (61,[105,115,116,111,114,101,95,50],0),
 (62,[105,115,116,111,114,101,95,51],0),
 (63,[108,115,116,111,114,101,95,48],0),
 (64,[108,115,116,111,114,101,95,49],0),
 (65,[108,115,116,111,114,101,95,50],0),
 (66,[108,115,116,111,114,101,95,51],0),
 (75,[97,115,116,111,114,101,95,48],0),
 (76,[97,115,116,111,114,101,95,49],0),
 (77,[97,115,116,111,114,101,95,50],0),
 (78,[97,115,116,111,114,101,95,51],0),
 (79,[105,97,115,116,111,114,101],0),
 (80,[108,97,115,116,111,114,101],0),
 (83,[97,97,115,116,111,114,101],0),
 (87,[112,111,112],0),
 (89,[100,117,112],0),
 (90,[100,117,112,95,120,49],0),
 (95,[115,119,97,112],0),
 (96,[105,97,100,100],0),
 (97,[108,97,100,100],0),
 (100,[105,115,117,98],0),
 (101,[108,115,117,98],0),
 (104,[105,109,117,108],0),
 (105,[108,109,117,108],0),
 (108,[105,100,105,118],0),
 (109,[108,100,105,118],0),
 (112,[105,114,101,109],0),
 (113,[108,114,101,109],0),
 (116,[105,110,101,103],0),
 (117,[108,110,101,103],0),
 (120,[105,115,104,108],0),
 (121,[108,115,104,108],0),
 (122,[105,115,104,114],0),
 (123,[108,115,104,114],0),
 (124,[105,117,115,104,114],0),
 (125,[108,117,115,104,114],0),
 (126,[105,97,110,100],0),
 (127,[108,97,110,100],0),
 (128,[105,111,114],0),
 (129,[108,111,114],0),
 (130,[105,120,111,114],0),
 (131,[108,120,111,114],0),
 (132,[105,105,110,99],7),
 (133,[105,50,108],0),
 (136,[108,50,105],0),
 (145,[105,50,98],0),
 (146,[105,50,99],0),
 (147,[105,50,115],0),
 (148,[108,99,109,112],0),
 (153,[105,102,101,113],6),
 (154,[105,102,110,101],6),
 (155,[105,102,108,116],6),
 (156,[105,102,103,101],6),
 (157,[105,102,103,116],6),
 (158,[105,102,108,101],6),
 (159,[105,102,95,105,99,109,112,101,113],6),
 (160,[105,102,95,105,99,109,112,110,101],6),
 (161,[105,102,95,105,99,109,112,108,116],6),
 (162,[105,102,95,105,99,109,112,103,101],6),
 (163,[105,102,95,105,99,109,112,103,116],6),
 (164,[105,102,95,105,99,109,112,108,101],6),
 (165,[105,102,95,97,99,109,112,101,113],6),
 (166,[105,102,95,97,99,109,112,110,101],6),
 (167,[103,111,116,111],6),
 (172,[105,114,101,116,117,114,110],0),
 (173,[108,114,101,116,117,114,110],0),
 (176,[97,114,101,116,117,114,110],0),
 (177,[114,101,116,117,114,110],0),
 (178,[103,101,116,115,116,97,116,105,99],5),
 (179,[112,117,116,115,116,97,116,105,99],5),
 (180,[103,101,116,102,105,101,108,100],5),
 (181,[112,117,116,102,105,101,108,100],5),
 (182,[105,110,118,111,107,101,118,105,114,116,117,97,108],5),
 (183,[105,110,118,111,107,101,115,112,101,99,105,97,108],5),
 (184,[105,110,118,111,107,101,115,116,97,116,105,99],5),
 (187,[110,101,119],5),
 (188,[110,101,119,97,114,114,97,121],8),
 (189,[97,110,101,119,97,114,114,97,121],5),
 (190,[97,114,114,97,121,108,101,110,103,116,104],0),
 (191,[97,116,104,114,111,119],0),
 (192,[99,104,101,99,107,99,97,115,116],5),
 (193,[105,110,115,116,97,110,99,101,111,102],5),
 (198,[105,102,110,117,108,108],6),
 (199,[105,102,110,111,110,110,117,108,108],6)]
def forms : List Nat:=[1,1,1,1,1,1,1,1,1,1,1,0,0,0,0,0,3,4,5,0,6,2,2,0,0,2,1,1,1,1,1,1,1,1,0,0,0,0,0,0,0,0,1,1,1,1,1,1,0,0,1,0,0,0,2,2,0,0,2,1,1,1,1,1,1,1,1,0,0,0,0,0,0,0,0,1,1,1,1,1,1,0,0,1,0,0,0,1,0,1,1,0,0,0,0,1,1,1,0,0,1,1,0,0,1,1,0,0,1,1,0,0,1,1,0,0,1,1,0,0,1,1,1,1,1,1,1,1,1,1,1,1,8,1,0,0,1,0,0,0,0,0,0,0,0,1,1,1,1,0,0,0,0,7,7,7,7,7,7,7,7,7,7,7,7,7,7,7,0,0,0,0,1,1,0,0,1,1,6,6,6,6,6,6,6,0,0,6,9,6,1,1,6,6,0,0,0,0,7,7]
def names : List (List UInt8):=[[110,111,112],[97,99,111,110,115,116,95,110,117,108,108],[105,99,111,110,115,116,95,109,49],[105,99,111,110,115,116,95,48],[105,99,111,110,115,116,95,49],[105,99,111,110,115,116,95,50],[105,99,111,110,115,116,95,51],[105,99,111,110,115,116,95,52],[105,99,111,110,115,116,95,53],[108,99,111,110,115,116,95,48],[108,99,111,110,115,116,95,49],[],[],[],[],[],[98,105,112,117,115,104],[115,105,112,117,115,104],[108,100,99],[],[108,100,99,50,95,119],[105,108,111,97,100],[108,108,111,97,100],[],[],[97,108,111,97,100],[105,108,111,97,100,95,48],[105,108,111,97,100,95,49],[105,108,111,97,100,95,50],[105,108,111,97,100,95,51],[108,108,111,97,100,95,48],[108,108,111,97,100,95,49],[108,108,111,97,100,95,50],[108,108,111,97,100,95,51],[],[],[],[],[],[],[],[],[97,108,111,97,100,95,48],[97,108,111,97,100,95,49],[97,108,111,97,100,95,50],[97,108,111,97,100,95,51],[105,97,108,111,97,100],[108,97,108,111,97,100],[],[],[97,97,108,111,97,100],[],[],[],[105,115,116,111,114,101],[108,115,116,111,114,101],[],[],[97,115,116,111,114,101],[105,115,116,111,114,101,95,48],[105,115,116,111,114,101,95,49],[105,115,116,111,114,101,95,50],[105,115,116,111,114,101,95,51],[108,115,116,111,114,101,95,48],[108,115,116,111,114,101,95,49],[108,115,116,111,114,101,95,50],[108,115,116,111,114,101,95,51],[],[],[],[],[],[],[],[],[97,115,116,111,114,101,95,48],[97,115,116,111,114,101,95,49],[97,115,116,111,114,101,95,50],[97,115,116,111,114,101,95,51],[105,97,115,116,111,114,101],[108,97,115,116,111,114,101],[],[],[97,97,115,116,111,114,101],[],[],[],[112,111,112],[],[100,117,112],[100,117,112,95,120,49],[],[],[],[],[115,119,97,112],[105,97,100,100],[108,97,100,100],[],[],[105,115,117,98],[108,115,117,98],[],[],[105,109,117,108],[108,109,117,108],[],[],[105,100,105,118],[108,100,105,118],[],[],[105,114,101,109],[108,114,101,109],[],[],[105,110,101,103],[108,110,101,103],[],[],[105,115,104,108],[108,115,104,108],[105,115,104,114],[108,115,104,114],[105,117,115,104,114],[108,117,115,104,114],[105,97,110,100],[108,97,110,100],[105,111,114],[108,111,114],[105,120,111,114],[108,120,111,114],[105,105,110,99],[105,50,108],[],[],[108,50,105],[],[],[],[],[],[],[],[],[105,50,98],[105,50,99],[105,50,115],[108,99,109,112],[],[],[],[],[105,102,101,113],[105,102,110,101],[105,102,108,116],[105,102,103,101],[105,102,103,116],[105,102,108,101],[105,102,95,105,99,109,112,101,113],[105,102,95,105,99,109,112,110,101],[105,102,95,105,99,109,112,108,116],[105,102,95,105,99,109,112,103,101],[105,102,95,105,99,109,112,103,116],[105,102,95,105,99,109,112,108,101],[105,102,95,97,99,109,112,101,113],[105,102,95,97,99,109,112,110,101],[103,111,116,111],[],[],[],[],[105,114,101,116,117,114,110],[108,114,101,116,117,114,110],[],[],[97,114,101,116,117,114,110],[114,101,116,117,114,110],[103,101,116,115,116,97,116,105,99],[112,117,116,115,116,97,116,105,99],[103,101,116,102,105,101,108,100],[112,117,116,102,105,101,108,100],[105,110,118,111,107,101,118,105,114,116,117,97,108],[105,110,118,111,107,101,115,112,101,99,105,97,108],[105,110,118,111,107,101,115,116,97,116,105,99],[],[],[110,101,119],[110,101,119,97,114,114,97,121],[97,110,101,119,97,114,114,97,121],[97,114,114,97,121,108,101,110,103,116,104],[97,116,104,114,111,119],[99,104,101,99,107,99,97,115,116],[105,110,115,116,97,110,99,101,111,102],[],[],[],[],[105,102,110,117,108,108],[105,102,110,111,110,110,117,108,108]]
def behinds : List Nat:=[0,1,1,2,1,2,2,2,1]
def fm (op : Int) : Nat:=if 0 ≤ op ∧ op < 200 then forms.getD op.toNat 0 else 0
def isOp (op : Int) : Bool:=fm op != 0
def formOf (op : Int) : Nat:=fm op - 1
def nameOf (op : Int) : List UInt8:=if 0 ≤ op ∧ op < 200 then names.getD op.toNat [] else []
def bh (f : Nat) : Nat:=behinds.getD f 0
def szOf (op : Int) : Nat:=if isOp op then 1 + bh (formOf op) else 0
theorem fm_le (op : Int) : fm op ≤ 9:=by
 unfold fm
 split
 ·have h : ∀ k,k < 200 → forms.getD k 0 ≤ 9:=by decide +kernel
  exact h _ (by omega)
 ·omega
theorem formOf_le (op : Int) : formOf op ≤ 8:=by have:=fm_le op;unfold formOf;omega
theorem fm_out (op : Int) (h : ¬ (0 ≤ op ∧ op < 200)) : fm op = 0:=by unfold fm;rw [if_neg h]
theorem fm_nat (k : Nat) (h : k < 200) : fm (k : Int) = forms.getD k 0:=by unfold fm;rw [if_pos (by omega)];rfl
theorem isOp_out (op : Int) (h : ¬ (0 ≤ op ∧ op < 200)) : isOp op = false:=by unfold isOp;rw [fm_out op h];rfl
theorem isOp_range {op : Int} (h : isOp op = true) : 0 ≤ op ∧ op < 200:=by
 by_cases h1 : 0 ≤ op ∧ op < 200
 ·exact h1
 ·rw [isOp_out op h1] at h;cases h
theorem find_op (op : Int) : rows.find? (fun r=>(r.1 : Int) == op) = if isOp op then some (op.toNat,nameOf op,formOf op) else none:=by
 by_cases h : 0 ≤ op ∧ op < 200
 ·obtain ⟨k,rfl⟩:=Int.eq_ofNat_of_zero_le h.1
  have hk : k < 200:=by omega
  have h1 : rows.find? (fun r=>(r.1 : Int) == (k : Int)) = rows.find? (fun r=>r.1 == k):=by
   congr 1;funext r;rw [Bool.eq_iff_iff];simp;omega
  have all : ∀ k,k < 200 → rows.find? (fun r=>r.1 == k) = if (forms.getD k 0 != 0) then some (k,names.getD k [],forms.getD k 0 - 1) else none:=by decide +kernel
  rw [h1,all k hk]
  unfold isOp formOf nameOf
  rw [fm_nat k hk,if_pos h]
  rfl
 ·rw [isOp_out op h]
  simp only [List.find?_eq_none,Bool.false_eq_true,if_false]
  have all : ∀ r ∈ rows,r.1 < 200:=by decide +kernel
  intro r hr
  have:=all r hr
  simp;omega
theorem find_at {α : Type} {p : α → Bool} : ∀ {l : List α} {k : Nat} {x : α},l[k]? = some x → p x = true → (∀ j y,j < k → l[j]? = some y → p y = false) → l.find? p = some x
 | [],_,_,h,_,_=>by simp at h
 | a :: l,0,x,h,hp,_=>by
  simp only [List.getElem?_cons_zero,Option.some.injEq] at h
  subst h
  simp [List.find?,hp]
 | a :: l,k + 1,x,h,hp,hn=>by
  have ha:=hn 0 a (by omega) (by simp)
  simp only [List.find?,ha]
  exact find_at (k:=k) (by simpa using h) hp fun j y hj hy=>hn (j + 1) y (by omega) (by simpa using hy)
theorem find_end {α : Type} {p : α → Bool} {l : List α} (hn : ∀ j y,j < l.length → l[j]? = some y → p y = false) : l.find? p = none:=by
 rw [List.find?_eq_none]
 intro x hx
 obtain ⟨j,hj,rfl⟩:=List.mem_iff_getElem.1 hx
 simp [hn j _ hj (List.getElem?_eq_getElem hj)]
end Go.Proofs.YtnojgiflgmnjlaaGreatDoor.L1.Op1
namespace Go.Proofs.YtnojgiflgmnjlaaGreatDoor.L1
open Go.RowKit
def rowCells : List (Nat × List UInt8 × Nat) → List Value
 | []=>[]
 | r :: l=>.int .i64 (r.1 : Int) :: .string ⟨r.2.1.toArray⟩ :: .int .i64 (r.2.2 : Int) :: rowCells l
def tableObj : Obj:=.cells (rowCells Op1.rows).toArray 238
theorem table_run (w : World) : Kit.runF Tryz.prog 400 215 #[] w = some (.slice (some ⟨w.heap.size,0,none⟩) 121 121,w.alloc tableObj):=by kernel_rfl
theorem table_any (w : World) : Calls Tryz.prog 215 #[] w fun e w'=>e = .returned (.slice (some ⟨w.heap.size,0,none⟩) 121 121) ∧ w' = w.alloc tableObj :=
 Kit.calls_run 400 (table_run w)
end Go.Proofs.YtnojgiflgmnjlaaGreatDoor.L1
namespace Go.Proofs.YtnojgiflgmnjlaaGreatDoor.L1
open Go.RowKit
structure Tabs (w : World) : Prop where
 size : 5 < w.heap.size ∧ 1 < w.heap.size
 forms : ∀ k,k < 200 → w.cell? ⟨5,k,none⟩ = some (.int .u8 (Op1.forms.getD k 0 : Nat))
 behind : ∀ k,k < 9 → w.cell? ⟨1,k,none⟩ = some (.int .u8 (Op1.behinds.getD k 0 : Nat))
theorem hid {p : Prop} (h : p) : Hid p:=h
theorem Tabs.below {B : Nat} {w w' : World} (h : Tabs w) (hb : Below B w w') (hB : 5 < B ∧ 1 < B) : Tabs w' :=
 ⟨⟨Nat.lt_of_lt_of_le h.size.1 hb.size,Nat.lt_of_lt_of_le h.size.2 hb.size⟩,fun k hk=>(hb.cell (p:=⟨5,k,none⟩) (by simp;omega)).trans (h.forms k hk),fun k hk=>(hb.cell (p:=⟨1,k,none⟩) (by simp;omega)).trans (h.behind k hk)⟩
def isV (op : Int) : Value:=.tuple #[.int .i64 (Op1.formOf op : Nat),.bool (Op1.isOp op)]
theorem form_any (op : Int) (w : World) (ht : Tabs w) : Calls Tryz.prog 205 #[.int .i64 op] w fun e w'=>e = .returned (isV op) ∧ w = w':=by
 by_cases h : 0 ≤ op ∧ op < 200
 ·obtain ⟨k,rfl⟩:=Int.eq_ofNat_of_zero_le h.1
  have hk : k < 200:=by omega
  have hc:=ht.forms k hk
  have hf:=Op1.fm_nat k hk
  have hz9:=Op1.fm_le k
  obtain ⟨z,hz⟩ : ∃ z,z = Op1.forms.getD k 0:=⟨_,rfl⟩
  rw [← hz] at hc hf
  have hV : isV (k : Int) = if z = 0 then .tuple #[.int .i64 0,.bool false] else .tuple #[.int .i64 ((z : Int) - 1),.bool true]:=by
   unfold isV Op1.formOf Op1.isOp
   rw [hf]
   by_cases hz0 : z = 0
   ·simp [hz0]
   ·have : ((z - 1 : Nat) : Int) = (z : Int) - 1:=by omega
    simp [hz0,this]
  rw [hf] at hz9
  rw [hV]
  clear hf hz hV ht h
  by_cases hz0 : z = 0
  ·subst hz0
   go_enter Tryz.func205,Tryz.ntmps205
   go_wp2
   all_goals go_ret2
   exact ⟨by simp,rfl⟩
  ·have hzb : ((z : Int) == 0) = false:=by simpa using hz0
   have hd : decide ((k : Int) < 0) = false:=by simp
   have hd2 : decide (200 ≤ (k : Int)) = false:=by simp;omega
   have hz1 : 0 < (z : Int):=by omega
   have hz2 : (z : Int) ≤ 9:=by omega
   go_enter Tryz.func205,Tryz.ntmps205
   go_wp2
   all_goals go_ret2
   exact ⟨by simp,rfl⟩
 ·have hV : isV op = .tuple #[.int .i64 0,.bool false]:=by
   unfold isV Op1.formOf Op1.isOp
   rw [Op1.fm_out op h]
   rfl
  rw [hV]
  clear hV ht
  by_cases h0 : op < 0
  all_goals
   go_enter Tryz.func205,Tryz.ntmps205
   go_wp2
   all_goals go_ret2
   all_goals exact ⟨rfl,rfl⟩
def szV (op : Int) : Value:=.tuple #[.int .i64 (Op1.szOf op : Nat),.bool (Op1.isOp op)]
theorem size_any (op : Int) (w : World) (ht : Tabs w) : Calls Tryz.prog 192 #[.int .i64 op] w fun e w'=>e = .returned (szV op) ∧ w = w':=by
 have hf8:=Op1.formOf_le op
 have hb:=ht.behind (Op1.formOf op) (by omega)
 have hb2 : Op1.behinds.getD (Op1.formOf op) 0 ≤ 2:=(show ∀ k,k < 9 → Op1.behinds.getD k 0 ≤ 2 by decide +kernel) _ (by omega)
 have hV : szV op = if Op1.isOp op then .tuple #[.int .i64 (1 + (Op1.behinds.getD (Op1.formOf op) 0 : Nat) : Int),.bool true] else .tuple #[.int .i64 0,.bool false]:=by
  unfold szV Op1.szOf Op1.bh
  cases Op1.isOp op <;> simp
 have hform:=form_any op w ht
 unfold isV at hform
 rw [hV]
 generalize Op1.behinds.getD (Op1.formOf op) 0 = y at *
 generalize Op1.formOf op = x at *
 generalize Op1.isOp op = is at *
 clear hV
 have H:=hid hform
 clear hform
 cases is
 all_goals
  go_enter Tryz.func192,Tryz.ntmps192
  go_wp2_with (go_at_call 205;refine H.out.mono ?_;rintro e w' ⟨rfl,rfl⟩)
  go_ret2
  exact ⟨by simp,rfl⟩
theorem rbehind_any (f : Nat) (w : World) (h : f ≤ 8) : Calls Tryz.prog 207 #[.int .i64 f] w fun e w'=>e = .returned (.int .i64 (Op1.bh f : Nat)) ∧ w = w':=by
 have all : f = 0 ∨ f = 1 ∨ f = 2 ∨ f = 3 ∨ f = 4 ∨ f = 5 ∨ f = 6 ∨ f = 7 ∨ f = 8:=by omega
 clear h
 rcases all with rfl|rfl|rfl|rfl|rfl|rfl|rfl|rfl|rfl
 all_goals
  go_enter Tryz.func207,Tryz.ntmps207
  go_wp2
  all_goals go_ret
  all_goals exact ⟨rfl,rfl⟩
end Go.Proofs.YtnojgiflgmnjlaaGreatDoor.L1
namespace Go.Proofs.YtnojgiflgmnjlaaGreatDoor.L1
open Go.RowKit
theorem rowCells_at : ∀ (l : List (Nat × List UInt8 × Nat)) (k : Nat) (r : Nat × List UInt8 × Nat),l[k]? = some r →
  (rowCells l)[3 * k]? = some (.int .i64 (r.1 : Int)) ∧ (rowCells l)[3 * k + 1]? = some (.string ⟨r.2.1.toArray⟩) ∧ (rowCells l)[3 * k + 2]? = some (.int .i64 (r.2.2 : Int))
 | [],_,_,h=>by simp at h
 | x :: l,0,r,h=>by
  simp only [List.getElem?_cons_zero,Option.some.injEq] at h
  subst h
  simp [rowCells]
 | x :: l,k + 1,r,h=>by
  have:=rowCells_at l k r (by simpa using h)
  have e0 : 3 * (k + 1) = 3 * k + 1 + 1 + 1:=by omega
  have e1 : 3 * (k + 1) + 1 = 3 * k + 1 + 1 + 1 + 1:=by omega
  have e2 : 3 * (k + 1) + 2 = 3 * k + 2 + 1 + 1 + 1:=by omega
  rw [e1,e2,e0]
  simpa [rowCells] using this
theorem table_at (w : World) (k : Nat) (r : Nat × List UInt8 × Nat) (h : Op1.rows[k]? = some r) :
  (w.alloc tableObj).cell? ⟨w.heap.size,k * 3,none⟩ = some (.int .i64 (r.1 : Int)) ∧ (w.alloc tableObj).cell? ⟨w.heap.size,k * 3 + 1,none⟩ = some (.string ⟨r.2.1.toArray⟩) ∧ (w.alloc tableObj).cell? ⟨w.heap.size,k * 3 + 2,none⟩ = some (.int .i64 (r.2.2 : Int)):=by
 unfold tableObj
 rw [World.cell?_alloc_at _ _ _ _ rfl,World.cell?_alloc_at _ _ _ _ rfl,World.cell?_alloc_at _ _ _ _ rfl]
 have:=rowCells_at Op1.rows k r h
 rw [Nat.mul_comm] at this
 simpa using this
def rowV (r : Nat × List UInt8 × Nat) (is : Bool) : Value:=.tuple #[.agg #[.int .i64 (r.1 : Int),.string ⟨r.2.1.toArray⟩,.int .i64 (r.2.2 : Int)],.bool is]
def findV (op : Int) : Value:=match Op1.rows.find? (fun r=>(r.1 : Int) == op) with
 | some r=>rowV r true
 | none=>rowV (0,[],0) false
theorem findV_some {op : Int} {k : Nat} {r : Nat × List UInt8 × Nat} (hr : Op1.rows[k]? = some r) (hb : ((r.1 : Int) == op) = true) (hall : ∀ j r,j < k → Op1.rows[j]? = some r → ((r.1 : Int) == op) = false) : findV op = rowV r true:=by
 unfold findV
 rw [Op1.find_at hr hb hall]
theorem findV_none {op : Int} (hall : ∀ j r,j < 121 → Op1.rows[j]? = some r → ((r.1 : Int) == op) = false) : findV op = rowV (0,[],0) false:=by
 unfold findV
 rw [Op1.find_end (fun j y hj=>hall j y (by (have : Op1.rows.length = 121:=by kernel_rfl);omega))]
theorem rfind_any (op : Int) (w : World) : Calls Tryz.prog 209 #[.int .i64 op] w fun e w'=>e = .returned (findV op) ∧ Below w.heap.size w w':=by
 have hlen : Op1.rows.length = 121:=by kernel_rfl
 go_enter Tryz.func209,Tryz.ntmps209
 go_wp2_with (go_at_call 215;refine (table_any _).mono ?_;rintro e w' ⟨rfl,rfl⟩)
 go_loop [5] (fun i=>∃ k : Nat,k ≤ 121 ∧ i = .int .i64 k ∧ (∀ j r,j < k → Op1.rows[j]? = some r → ((r.1 : Int) == op) = false)) (fun i=>121 - (intOf i).toNat)
 case atStart=>exact ⟨0,by omega,rfl,fun j r hj=>by omega⟩
 case round =>
  obtain ⟨k,hk,rfl,hall⟩:=hrel
  have Hall:=hid hall
  clear hall
  by_cases hlt : k < 121
  ·obtain ⟨r,hr⟩ : ∃ r,Op1.rows[k]? = some r:=⟨Op1.rows[k]'(by omega),List.getElem?_eq_getElem (by omega)⟩
   clear hlen
   obtain ⟨h0,h1,h2⟩:=table_at (w.alloc (Obj.cells #[Value.int IntKind.i64 0,Value.string { data:=#[] },Value.int IntKind.i64 0] 238)) k r hr
   simp only [World.size_alloc] at h0 h1 h2
   have H:=hid hr
   clear hr
   by_cases he : r.1 = op
   ·have hb : ((r.1 : Int) == op) = true:=by simpa using he
    clear he
    go_wp2
    refine bodyPost_ret (v:=rowV r true) (by simp [results,Tryz.results209,go_sem,rowV]) rfl ⟨by rw [findV_some H.out hb Hall.out],?_⟩
    exact ((Below.refl _ _).alloc (Nat.le_refl _) _).alloc (by simp) _
   ·have hb : ((r.1 : Int) == op) = false:=by simpa using he
    clear he
    go_wp2
    go_round
    case rel=>exact ⟨k + 1,by omega,by go_num,fun j r' hj hr'=>by
     by_cases hjk : j < k
     ·exact Hall.out j r' hjk hr'
     ·obtain rfl : j = k:=by omega
      rw [H.out] at hr'
      obtain rfl:=Option.some.inj hr'
      exact hb⟩
    case measure=>simp [intOf];omega
  ·obtain rfl : k = 121:=by omega
   clear hlen
   go_wp2
   refine bodyPost_ret (v:=rowV (0,[],0) false) (by simp [results,Tryz.results209,go_sem,rowV]) rfl ⟨by rw [findV_none Hall.out],?_⟩
   exact ((Below.refl _ _).alloc (Nat.le_refl _) _).alloc (by simp) _
end Go.Proofs.YtnojgiflgmnjlaaGreatDoor.L1
namespace Go.Proofs.YtnojgiflgmnjlaaGreatDoor.L1
open Go.RowKit
theorem names_gap (k : Nat) (h : k < 200) (hz : Op1.forms.getD k 0 = 0) : Op1.names.getD k [] = [] :=
 (show ∀ k,k < 200 → Op1.forms.getD k 0 = 0 → Op1.names.getD k [] = [] by decide +kernel) k h hz
theorem nameOf_gap {op : Int} (h : Op1.isOp op = false) : Op1.nameOf op = []:=by
 unfold Op1.nameOf
 split
 ·rename_i hr
  obtain ⟨k,rfl⟩:=Int.eq_ofNat_of_zero_le hr.1
  unfold Op1.isOp at h
  rw [Op1.fm_nat k (by omega)] at h
  exact names_gap k (by omega) (by simpa using h)
 ·rfl
theorem findV_parts (op : Int) : ∃ r,findV op = rowV r (Op1.isOp op) ∧ r.2.2 = Op1.formOf op ∧ r.2.1 = Op1.nameOf op:=by
 unfold findV
 rw [Op1.find_op]
 cases h : Op1.isOp op with
 | true=>exact ⟨_,rfl,rfl,rfl⟩
 | false =>
  refine ⟨(0,[],0),rfl,?_,(nameOf_gap h).symm⟩
  unfold Op1.isOp at h
  unfold Op1.formOf
  have : Op1.fm op = 0:=by simpa using h
  rw [this]
theorem belows {B : Nat} {a b c : World} (h : Below B a b) (k : Below b.heap.size b c) (hB : B ≤ b.heap.size) : Below B a c:=h.trans (k.mono hB)
theorem rform_any (op : Int) (w : World) : Calls Tryz.prog 196 #[.int .i64 op] w fun e w'=>e = .returned (isV op) ∧ Below w.heap.size w w':=by
 obtain ⟨⟨p,q,r⟩,hr,h1,-⟩:=findV_parts op
 dsimp only at h1
 have hV : isV op = .tuple #[.int .i64 (r : Nat),.bool (Op1.isOp op)]:=by unfold isV;rw [h1]
 rw [hV]
 have hf:=rfind_any op w
 rw [hr] at hf
 unfold rowV at hf
 generalize Op1.isOp op = is at *
 have H:=hid hf
 clear hf hV hr h1
 go_enter Tryz.func196,Tryz.ntmps196
 go_wp2_with (go_at_call 209;refine H.out.mono ?_;rintro e w' ⟨rfl,hb⟩)
 go_ret2
 exact ⟨rfl,hb.alloc hb.size _⟩
end Go.Proofs.YtnojgiflgmnjlaaGreatDoor.L1
namespace Go.Proofs.YtnojgiflgmnjlaaGreatDoor.L1.Op1
structure Ins where
 p : Int
 op : Int
 a : Int
 b : Int
instance : DecidableEq Ins:=fun x y=>decidable_of_iff (x.p = y.p ∧ x.op = y.op ∧ x.a = y.a ∧ x.b = y.b)
 ⟨fun h=>by cases x;cases y;simp_all,fun h=>by subst h;exact ⟨rfl,rfl,rfl,rfl⟩⟩
def s8 (c : Nat) : Int:=if 128 ≤ c then (c : Int) - 256 else c
def s16 (c : Nat) : Int:=if 32768 ≤ c then (c : Int) - 65536 else c
def abOf (f : Nat) (p : Int) (c d : Nat) : Int × Int :=
 if f = 1 ∨ f = 4 ∨ f = 8 then ((c : Int),0) else if f = 2 then (s8 c,0) else if f = 3 then (s16 (256 * c + d),0) else if f = 5 then (((256 * c + d : Nat) : Int),0)
 else if f = 6 then (p + s16 (256 * c + d),0) else if f = 7 then ((c : Int),s8 d) else (0,0)
def at8 (bs : List UInt8) (i : Nat) : Nat:=(bs.getD i 0).toNat
theorem at8_lt (bs : List UInt8) (i : Nat) : at8 bs i < 256:=UInt8.toNat_lt _
def insAt (bs : List UInt8) (p : Nat) : Ins :=
 let ab:=abOf (formOf (at8 bs p)) p (at8 bs (p + 1)) (at8 bs (p + 2))
 ⟨p,at8 bs p,ab.1,ab.2⟩
def noIns : Ins:=⟨0,0,0,0⟩
def one (bs : List UInt8) (p : Int) : Ins × Int × Int :=
 if p < 0 ∨ (bs.length : Int) ≤ p then (noIns,0,11)
 else if isOp (at8 bs p.toNat) = false then (noIns,0,10)
 else if (bs.length : Int) - p < szOf (at8 bs p.toNat) then (noIns,0,11)
 else if at8 bs p.toNat = 188 ∧ at8 bs (p.toNat + 1) ≠ 10 ∧ at8 bs (p.toNat + 1) ≠ 11 then (noIns,0,13)
 else (insAt bs p.toNat,p + szOf (at8 bs p.toNat),0)
end Go.Proofs.YtnojgiflgmnjlaaGreatDoor.L1.Op1
namespace Go.Proofs.YtnojgiflgmnjlaaGreatDoor.L1
open Go.RowKit
theorem belows_drewN {B : Nat} {a b : World} (h : Below B a b) (n : Nat) : Below B a (b.drewN n):=⟨h.os,h.tape,h.output,h.size,h.block⟩
theorem or_bytes (c d : Nat) (hc : c < 256) (hd : d < 256) : bits .or .u16 ((c : Int) * 256) (d : Int) = ((256 * c + d : Nat) : Int):=by
 have h:=u16_or_nat (c * 256) d (by omega) (by omega)
 have h2 : c * 256 ||| d = 256 * c + d:=by
  have:=Nat.shiftLeft_add_eq_or_of_lt (i:=8) (b:=d) (by omega) c
  rw [Nat.shiftLeft_eq] at this
  simp only [Nat.reducePow] at this
  rw [← this,Nat.mul_comm]
 rw [h2] at h
 simpa using h
theorem pair_any (b o n cap c d : Nat) (w : World) (hn : 2 ≤ n) (hc8 : c < 256) (hd8 : d < 256) (hc : w.cell? ⟨b,o,none⟩ = some (.int .u8 c)) (hd : w.cell? ⟨b,o + 1,none⟩ = some (.int .u8 d)) :
  Calls Tryz.prog 206 #[.slice (some ⟨b,o,none⟩) n cap] w fun e w'=>e = .returned (.int .u16 (256 * c + d : Nat)) ∧ ∃ n,w.drewN n = w':=by
 go_enter Tryz.func206,Tryz.ntmps206
 go_wp2
 go_quiet (fail)
 go_wp2
 go_ret
 exact ⟨by rw [← or_bytes c d hc8 hd8];rfl,_,rfl⟩
def insV (x : Op1.Ins) : Value:=.agg #[.int .i64 x.p,.int .i64 x.op,.int .i64 x.a,.int .i64 x.b]
theorem read_zero (op p : Int) (sv : Value) (w : World) (ht : Tabs w) (hf : Op1.formOf op = 0) :
  Calls Tryz.prog 193 #[.int .i64 op,.int .i64 p,sv] w fun e w'=>e = .returned (insV ⟨p,op,0,0⟩) ∧ Below w.heap.size w w':=by
 have hform:=fun W (h : Below w.heap.size w W)=>form_any op W (ht.below h ht.size)
 unfold isV at hform
 rw [hf] at hform
 generalize Op1.isOp op = is at *
 have H:=hid hform
 clear hform hf ht
 unfold insV
 go_enter Tryz.func193,Tryz.ntmps193
 go_wp2_with (go_at_call 205;refine (H.out _ BLw).mono ?_;rintro e w' ⟨rfl,rfl⟩)
 exact bodyPost_ret (v:=.agg #[.int .i64 p,.int .i64 op,.int .i64 0,.int .i64 0]) (by simp [results,Tryz.results193,go_sem]) rfl ⟨rfl,BLw⟩
theorem wrap_i8 (c : Nat) (h : c < 256) : IntKind.i8.wrap (c : Int) = Op1.s8 c:=by
 unfold Op1.s8
 by_cases h2 : 128 ≤ c
 ·rw [if_pos h2];simp [IntKind.wrap,IntKind.bits,IntKind.signed];omega
 ·rw [if_neg h2];simp [IntKind.wrap,IntKind.bits,IntKind.signed];omega
theorem s8_lo (c : Nat) (h : c < 256) : -128 ≤ Op1.s8 c ∧ Op1.s8 c ≤ 127:=by unfold Op1.s8;split <;> omega
theorem s16_lo (c : Nat) (h : c < 65536) : -32768 ≤ Op1.s16 c ∧ Op1.s16 c ≤ 32767:=by unfold Op1.s16;split <;> omega
theorem wrap64_s8 (c : Nat) (h : c < 256) : wrap64 (Op1.s8 c) = Op1.s8 c:=by
 have h2:=s8_lo c h
 unfold wrap64;omega
theorem wrap_i16 (c : Nat) (h : c < 65536) : IntKind.i16.wrap (c : Int) = Op1.s16 c:=by
 unfold Op1.s16
 by_cases h2 : 32768 ≤ c
 ·rw [if_pos h2];simp [IntKind.wrap,IntKind.bits,IntKind.signed];omega
 ·rw [if_neg h2];simp [IntKind.wrap,IntKind.bits,IntKind.signed];omega
theorem read_one (op p : Int) (f b o n cap c : Nat) (w : World) (ht : Tabs w) (hf : Op1.formOf op = f) (hf2 : f = 1 ∨ f = 4 ∨ f = 8 ∨ f = 2) (hn : 1 ≤ n) (hc8 : c < 256) (hc : w.cell? ⟨b,o,none⟩ = some (.int .u8 c)) :
  Calls Tryz.prog 193 #[.int .i64 op,.int .i64 p,.slice (some ⟨b,o,none⟩) n cap] w fun e w'=>e = .returned (insV ⟨p,op,(Op1.abOf f p c 0).1,0⟩) ∧ Below w.heap.size w w':=by
 have hform:=fun W (h : Below w.heap.size w W)=>form_any op W (ht.below h ht.size)
 unfold isV at hform
 rw [hf] at hform
 generalize Op1.isOp op = is at *
 have H:=hid hform
 have hlt:=World.block_lt_of_cell? w _ hc
 have e2:=hid (wrap_i8 c hc8)
 have e2s:=hid (wrap64_s8 c hc8)
 clear hform hf ht
 unfold insV
 rcases hf2 with rfl|rfl|rfl|rfl
 all_goals
  go_enter Tryz.func193,Tryz.ntmps193
  go_wp2_with (go_at_call 205;refine (H.out _ BLw).mono ?_;rintro e w' ⟨rfl,rfl⟩)
  first
   | exact bodyPost_ret (v:=.agg #[.int .i64 p,.int .i64 op,.int .i64 c,.int .i64 0]) (by simp [results,Tryz.results193,go_sem]) rfl ⟨rfl,BLw⟩
   | exact bodyPost_ret (v:=.agg #[.int .i64 p,.int .i64 op,.int .i64 (Op1.s8 c),.int .i64 0]) (by simp [results,Tryz.results193,go_sem,e2.out];exact e2s.out) rfl ⟨rfl,BLw⟩
theorem read_f3 (op p : Int) (b o n cap x : Nat) (is : Bool) (w : World)
  (H : Hid (∀ W,Below w.heap.size w W → Calls Tryz.prog 205 #[.int .i64 op] W fun e w'=>e = .returned (.tuple #[.int .i64 (3 : Nat),.bool is]) ∧ W = w'))
  (HP : Hid (∀ W,Below w.heap.size w W → Calls Tryz.prog 206 #[.slice (some ⟨b,o,none⟩) n cap] W fun e w'=>e = .returned (.int .u16 (x : Nat)) ∧ ∃ nq,W.drewN nq = w'))
  (hlo : -32768 ≤ IntKind.i16.wrap (x : Int)) (hhi : IntKind.i16.wrap (x : Int) ≤ 32767) :
  Calls Tryz.prog 193 #[.int .i64 op,.int .i64 p,.slice (some ⟨b,o,none⟩) n cap] w fun e w'=>e = .returned (insV ⟨p,op,IntKind.i16.wrap x,0⟩) ∧ Below w.heap.size w w':=by
 unfold insV
 go_enter Tryz.func193,Tryz.ntmps193
 go_wp2_with (first|(go_at_call 205;refine (H.out _ BLw).mono ?_;rintro e w' ⟨rfl,rfl⟩)|(go_at_call 206;refine (HP.out _ BLw).mono ?_;rintro e w' ⟨rfl,nq,rfl⟩))
 exact bodyPost_ret (v:=.agg #[.int .i64 p,.int .i64 op,.int .i64 (IntKind.i16.wrap x),.int .i64 0]) (by simp [results,Tryz.results193,go_sem]) rfl ⟨rfl,BLw⟩
theorem read_f5 (op p : Int) (b o n cap x : Nat) (is : Bool) (w : World)
  (H : Hid (∀ W,Below w.heap.size w W → Calls Tryz.prog 205 #[.int .i64 op] W fun e w'=>e = .returned (.tuple #[.int .i64 (5 : Nat),.bool is]) ∧ W = w'))
  (hx : x < 65536) (HP : Hid (∀ W,Below w.heap.size w W → Calls Tryz.prog 206 #[.slice (some ⟨b,o,none⟩) n cap] W fun e w'=>e = .returned (.int .u16 (x : Nat)) ∧ ∃ nq,W.drewN nq = w')) :
  Calls Tryz.prog 193 #[.int .i64 op,.int .i64 p,.slice (some ⟨b,o,none⟩) n cap] w fun e w'=>e = .returned (insV ⟨p,op,x,0⟩) ∧ Below w.heap.size w w':=by
 unfold insV
 go_enter Tryz.func193,Tryz.ntmps193
 go_wp2_with (first|(go_at_call 205;refine (H.out _ BLw).mono ?_;rintro e w' ⟨rfl,rfl⟩)|(go_at_call 206;refine (HP.out _ BLw).mono ?_;rintro e w' ⟨rfl,nq,rfl⟩))
 exact bodyPost_ret (v:=.agg #[.int .i64 p,.int .i64 op,.int .i64 (x),.int .i64 0]) (by simp [results,Tryz.results193,go_sem]) rfl ⟨rfl,BLw⟩
theorem read_f6 (op p : Int) (b o n cap x : Nat) (is : Bool) (w : World) (hp : 0 ≤ p) (hp2 : p ≤ 140737488355328)
  (H : Hid (∀ W,Below w.heap.size w W → Calls Tryz.prog 205 #[.int .i64 op] W fun e w'=>e = .returned (.tuple #[.int .i64 (6 : Nat),.bool is]) ∧ W = w'))
  (HP : Hid (∀ W,Below w.heap.size w W → Calls Tryz.prog 206 #[.slice (some ⟨b,o,none⟩) n cap] W fun e w'=>e = .returned (.int .u16 (x : Nat)) ∧ ∃ nq,W.drewN nq = w'))
  (hlo : -32768 ≤ IntKind.i16.wrap (x : Int)) (hhi : IntKind.i16.wrap (x : Int) ≤ 32767) :
  Calls Tryz.prog 193 #[.int .i64 op,.int .i64 p,.slice (some ⟨b,o,none⟩) n cap] w fun e w'=>e = .returned (insV ⟨p,op,p + IntKind.i16.wrap x,0⟩) ∧ Below w.heap.size w w':=by
 unfold insV
 go_enter Tryz.func193,Tryz.ntmps193
 go_wp2_with (first|(go_at_call 205;refine (H.out _ BLw).mono ?_;rintro e w' ⟨rfl,rfl⟩)|(go_at_call 206;refine (HP.out _ BLw).mono ?_;rintro e w' ⟨rfl,nq,rfl⟩))
 exact bodyPost_ret (v:=.agg #[.int .i64 p,.int .i64 op,.int .i64 (p + IntKind.i16.wrap x),.int .i64 0]) (by simp [results,Tryz.results193,go_sem]) rfl ⟨rfl,BLw⟩
end Go.Proofs.YtnojgiflgmnjlaaGreatDoor.L1
namespace Go.Proofs.YtnojgiflgmnjlaaGreatDoor.L1
open Go.RowKit
theorem read_f7 (op p : Int) (b o n cap c d : Nat) (is : Bool) (w : World) (hn : 2 ≤ n)
  (H : Hid (∀ W,Below w.heap.size w W → Calls Tryz.prog 205 #[.int .i64 op] W fun e w'=>e = .returned (.tuple #[.int .i64 (7 : Nat),.bool is]) ∧ W = w'))
  (hc : w.cell? ⟨b,o,none⟩ = some (.int .u8 c)) (hd : w.cell? ⟨b,o + 1,none⟩ = some (.int .u8 d)) (hlt : b < w.heap.size) (e1 : Hid (wrap64 (c : Int) = c)) (e2 : Hid (wrap64 (IntKind.i8.wrap (d : Int)) = IntKind.i8.wrap d)) :
  Calls Tryz.prog 193 #[.int .i64 op,.int .i64 p,.slice (some ⟨b,o,none⟩) n cap] w fun e w'=>e = .returned (insV ⟨p,op,c,IntKind.i8.wrap d⟩) ∧ Below w.heap.size w w':=by
 unfold insV
 have hne : b ≠ w.heap.size + 1:=by omega
 have hne' : ¬ (w.heap.size + 1 = b):=by omega
 go_enter Tryz.func193,Tryz.ntmps193
 go_wp2_with (go_at_call 205;refine (H.out _ BLw).mono ?_;rintro e w' ⟨rfl,rfl⟩)
 obtain ⟨W,hW⟩ : ∃ W,W = (w.alloc (Obj.cells #[.int .i64 0,.int .i64 0,.int .i64 0,.int .i64 0] 192)).alloc (Obj.cells #[.int .i64 p,.int .i64 op,.int .i64 0,.int .i64 0] 192):=⟨_,rfl⟩
 have hb : Below w.heap.size w W:=by rw [hW];exact BLw
 have c0 : W.cell? ⟨w.heap.size,0,none⟩ = some (.int .i64 0):=by rw [hW];simp [go_sem]
 have c1 : W.cell? ⟨w.heap.size,1,none⟩ = some (.int .i64 0):=by rw [hW];simp [go_sem]
 have c2 : W.cell? ⟨w.heap.size,2,none⟩ = some (.int .i64 0):=by rw [hW];simp [go_sem]
 have c3 : W.cell? ⟨w.heap.size,3,none⟩ = some (.int .i64 0):=by rw [hW];simp [go_sem]
 have d0 : W.cell? ⟨w.heap.size + 1,0,none⟩ = some (.int .i64 p):=by rw [hW];simp [go_sem]
 have d1 : W.cell? ⟨w.heap.size + 1,1,none⟩ = some (.int .i64 op):=by rw [hW];simp [go_sem]
 have d2 : W.cell? ⟨w.heap.size + 1,2,none⟩ = some (.int .i64 0):=by rw [hW];simp [go_sem]
 have d3 : W.cell? ⟨w.heap.size + 1,3,none⟩ = some (.int .i64 0):=by rw [hW];simp [go_sem]
 have z0 : ∀ o,W.frozen? ⟨w.heap.size,o,none⟩ = false:=by intro o;rw [hW];simp [go_sem]
 have z1 : ∀ o,W.frozen? ⟨w.heap.size + 1,o,none⟩ = false:=by intro o;rw [hW];simp [go_sem]
 have hc' : W.cell? ⟨b,o,none⟩ = some (.int .u8 c):=(hb.cell (p:=⟨b,o,none⟩) hlt).trans hc
 have hd' : W.cell? ⟨b,o + 1,none⟩ = some (.int .u8 d):=(hb.cell (p:=⟨b,o + 1,none⟩) hlt).trans hd
 rw [← hW]
 clear hW hc hd H
 go_region
 go_wp2
 exact bodyPost_ret (v:=.agg #[.int .i64 p,.int .i64 op,.int .i64 c,.int .i64 (IntKind.i8.wrap d)]) (by simp [results,Tryz.results193,go_sem,c0,c1,c2,c3];exact ⟨e1.out,e2.out⟩) rfl ⟨rfl,BLw⟩
end Go.Proofs.YtnojgiflgmnjlaaGreatDoor.L1
namespace Go.Proofs.YtnojgiflgmnjlaaGreatDoor.L1
open Go.RowKit
def IsB (w : World) (v : Value) (bs : List UInt8) : Prop :=
 bs.length ≤ 140737488355328 ∧ ((bs = [] ∧ ∃ a cap,v = .slice a 0 cap) ∨ (∃ b o cap,v = .slice (some ⟨b,o,none⟩) bs.length cap ∧ bs.length ≤ cap ∧ b < w.heap.size ∧ ∀ i,i < bs.length → w.cell? ⟨b,o + i,none⟩ = some (.int .u8 (Op1.at8 bs i : Nat))))
theorem IsB.below {w w' : World} {v : Value} {bs : List UInt8} (h : IsB w v bs) {B : Nat} (hb : Below B w w') (hB : w.heap.size ≤ B) : IsB w' v bs:=by
 refine ⟨h.1,?_⟩
 rcases h.2 with h|⟨b,o,cap,hv,hl,hlt,hc⟩
 ·exact .inl h
 ·exact .inr ⟨b,o,cap,hv,hl,Nat.lt_of_lt_of_le hlt hb.size,fun i hi=>(hb.cell (p:=⟨b,o + i,none⟩) (by simp;omega)).trans (hc i hi)⟩
theorem IsB.len {w : World} {v : Value} {bs : List UInt8} (h : IsB w v bs) : ∃ a cap,v = .slice a bs.length cap:=by
 rcases h.2 with ⟨rfl,a,cap,rfl⟩|⟨b,o,cap,rfl,-⟩
 ·exact ⟨a,cap,rfl⟩
 ·exact ⟨_,cap,rfl⟩
theorem read_any (op : Int) (p : Nat) (a : Option Addr) (n cap c d : Nat) (w : World) (ht : Tabs w) (hn : n = Op1.bh (Op1.formOf op)) (hc8 : c < 256) (hd8 : d < 256) (hp2 : p ≤ 140737488355328)
  (h1 : 1 ≤ n → ∃ b o,a = some ⟨b,o,none⟩ ∧ w.cell? ⟨b,o,none⟩ = some (.int .u8 c) ∧ (2 ≤ n → w.cell? ⟨b,o + 1,none⟩ = some (.int .u8 d))) :
  Calls Tryz.prog 193 #[.int .i64 op,.int .i64 p,.slice a n cap] w fun e w' =>
   e = .returned (insV ⟨p,op,(Op1.abOf (Op1.formOf op) p c d).1,(Op1.abOf (Op1.formOf op) p c d).2⟩) ∧ Below w.heap.size w w':=by
 have hform:=fun W (h : Below w.heap.size w W)=>form_any op W (ht.below h ht.size)
 unfold isV at hform
 have hf8:=Op1.formOf_le op
 by_cases hf0 : Op1.formOf op = 0
 ·rw [hf0];exact read_zero op p _ w ht hf0
 ·have hn1 : 1 ≤ n:=by
   rw [hn]
   exact (show ∀ f,f < 9 → f ≠ 0 → 1 ≤ Op1.bh f by decide +kernel) _ (by omega) hf0
  obtain ⟨b,o,rfl,hc,h2⟩:=h1 hn1
  have hlt:=World.block_lt_of_cell? w _ hc
  by_cases hs : Op1.formOf op = 1 ∨ Op1.formOf op = 4 ∨ Op1.formOf op = 8 ∨ Op1.formOf op = 2
  ·have:=read_one op p (Op1.formOf op) b o n cap c w ht rfl hs hn1 hc8 hc
   have e0 : Op1.abOf (Op1.formOf op) p c d = ((Op1.abOf (Op1.formOf op) p c 0).1,0):=by
    rcases hs with h|h|h|h <;> rw [h] <;> rfl
   rw [e0]
   exact this
  ·have hn2 : 2 ≤ n:=by
    rw [hn]
    exact (show ∀ f,f < 9 → f ≠ 0 → ¬ (f = 1 ∨ f = 4 ∨ f = 8 ∨ f = 2) → 2 ≤ Op1.bh f by decide +kernel) _ (by omega) hf0 hs
   have hd:=h2 hn2
   have hx1 : 256 * c + d < 65536:=by omega
   have e3:=wrap_i16 (256 * c + d) hx1
   have HP:=hid (fun W (h : Below w.heap.size w W)=>pair_any b o n cap c d W hn2 hc8 hd8 ((h.cell (p:=⟨b,o,none⟩) hlt).trans hc) ((h.cell (p:=⟨b,o + 1,none⟩) hlt).trans hd))
   have hlo : -32768 ≤ IntKind.i16.wrap ((256 * c + d : Nat) : Int):=by rw [e3];exact (s16_lo _ hx1).1
   have hhi : IntKind.i16.wrap ((256 * c + d : Nat) : Int) ≤ 32767:=by rw [e3];exact (s16_lo _ hx1).2
   have all : Op1.formOf op = 3 ∨ Op1.formOf op = 5 ∨ Op1.formOf op = 6 ∨ Op1.formOf op = 7:=by omega
   rcases all with h|h|h|h
   ·rw [h] at hform ⊢
    have:=read_f3 op p b o n cap (256 * c + d) (Op1.isOp op) w (hid hform) HP hlo hhi
    rw [e3] at this
    exact this
   ·rw [h] at hform ⊢
    exact read_f5 op p b o n cap (256 * c + d) (Op1.isOp op) w (hid hform) hx1 HP
   ·rw [h] at hform ⊢
    have:=read_f6 op p b o n cap (256 * c + d) (Op1.isOp op) w (by omega) (by omega) (hid hform) HP hlo hhi
    rw [e3] at this
    exact this
   ·rw [h] at hform ⊢
    have e8:=wrap_i8 d hd8
    have:=read_f7 op p b o n cap c d (Op1.isOp op) w hn2 (hid hform) hc hd hlt (hid (by unfold wrap64;omega)) (hid (by rw [e8];exact wrap64_s8 d hd8))
    rw [e8] at this
    exact this
def oneV (r : Op1.Ins × Int × Int) : Value:=.tuple #[insV r.1,.int .i64 r.2.1,.int .i64 r.2.2]
theorem one_out (a : Option Addr) (n cap : Nat) (p : Int) (w : World) (h : p < 0 ∨ (n : Int) ≤ p) :
  Calls Tryz.prog 178 #[.slice a n cap,.int .i64 p] w fun e w'=>e = .returned (oneV (Op1.noIns,0,11)) ∧ Below w.heap.size w w':=by
 unfold oneV insV Op1.noIns
 rcases h with h|h
 ·have hd : decide (p < 0) = true:=by simpa using h
  go_enter Tryz.func178,Tryz.ntmps178
  go_wp2
  exact bodyPost_ret (v:=.tuple #[.agg #[.int .i64 0,.int .i64 0,.int .i64 0,.int .i64 0],.int .i64 0,.int .i64 11]) (by simp [results,Tryz.results178,go_sem]) rfl ⟨rfl,BLw⟩
 ·have hd : decide (p < 0) = false:=by simp;omega
  go_enter Tryz.func178,Tryz.ntmps178
  go_wp2
  exact bodyPost_ret (v:=.tuple #[.agg #[.int .i64 0,.int .i64 0,.int .i64 0,.int .i64 0],.int .i64 0,.int .i64 11]) (by simp [results,Tryz.results178,go_sem]) rfl ⟨rfl,BLw⟩
theorem one_noop (b o n cap k c : Nat) (w : World) (hk : k < n) (hc8 : c < 256) (ht : Tabs w) (hc : w.cell? ⟨b,o + k,none⟩ = some (.int .u8 c)) (hop : Op1.isOp c = false) :
  Calls Tryz.prog 178 #[.slice (some ⟨b,o,none⟩) n cap,.int .i64 k] w fun e w'=>e = .returned (oneV (Op1.noIns,0,10)) ∧ Below w.heap.size w w':=by
 unfold oneV insV Op1.noIns
 have hsize:=fun W (h : Below w.heap.size w W)=>size_any c W (ht.below h ht.size)
 unfold szV at hsize
 rw [hop] at hsize
 have H:=hid hsize
 generalize Op1.szOf (c : Int) = sz at *
 have hlt:=World.block_lt_of_cell? w _ hc
 have hd : decide ((k : Int) < 0) = false:=by simp
 clear hsize hop ht
 go_enter Tryz.func178,Tryz.ntmps178
 go_wp2_with (go_at_call 192;refine (H.out _ BLw).mono ?_;rintro e w' ⟨rfl,rfl⟩)
 exact bodyPost_ret (v:=.tuple #[.agg #[.int .i64 0,.int .i64 0,.int .i64 0,.int .i64 0],.int .i64 0,.int .i64 10]) (by simp [results,Tryz.results178,go_sem]) rfl ⟨rfl,BLw⟩
theorem one_cut (b o n cap k c sz : Nat) (w : World) (hk : k < n) (hn : n ≤ 140737488355328) (hc8 : c < 256) (ht : Tabs w) (hc : w.cell? ⟨b,o + k,none⟩ = some (.int .u8 c)) (hop : Op1.isOp c = true) (hsz : Op1.szOf c = sz) (hcut : n - k < sz) :
  Calls Tryz.prog 178 #[.slice (some ⟨b,o,none⟩) n cap,.int .i64 k] w fun e w'=>e = .returned (oneV (Op1.noIns,0,11)) ∧ Below w.heap.size w w':=by
 unfold oneV insV Op1.noIns
 have hsize:=fun W (h : Below w.heap.size w W)=>size_any c W (ht.below h ht.size)
 unfold szV at hsize
 rw [hop,hsz] at hsize
 have H:=hid hsize
 have hlt:=World.block_lt_of_cell? w _ hc
 have hd : decide ((k : Int) < 0) = false:=by simp
 have hd2 : decide ((n : Int) - (k : Int) < (sz : Int)) = true:=by simp;omega
 clear hsize hop ht hsz hcut
 go_enter Tryz.func178,Tryz.ntmps178
 go_wp2_with (go_at_call 192;refine (H.out _ BLw).mono ?_;rintro e w' ⟨rfl,rfl⟩)
 exact bodyPost_ret (v:=.tuple #[.agg #[.int .i64 0,.int .i64 0,.int .i64 0,.int .i64 0],.int .i64 0,.int .i64 11]) (by simp [results,Tryz.results178,go_sem]) rfl ⟨rfl,BLw⟩
end Go.Proofs.YtnojgiflgmnjlaaGreatDoor.L1
