/- Own texts for the claim, part 8. -/
import Derived.Test.YtfphiomhlhpphaaZE7
namespace Go.Proofs.Ytfphiomhlhpphaa
open Go Go.RowKit Go.ChangeMaps Go.MapKept
open Go.WideElems (Fit rd_key)
open Pf (ix addk alt keys)
theorem setBlock_twice (w : World) (b : Nat) (x y : Obj) : setBlock (setBlock w b x) b y = setBlock w b y:=by
 unfold setBlock
 simp
theorem heap_setBlock_at {w : World} {b : Nat} {o : Obj} (h : w.heap[b]? = some o) (o' : Obj) : (setBlock w b o').heap[b]? = some o':=by
 have:=(Array.getElem?_eq_some_iff.1 h).1
 unfold setBlock
 simp [this]
theorem modify_push {α : Type} (xs : Array α) (x : α) (f : α → α) : (xs.push x).modify xs.size f = xs.push (f x):=by
 apply Array.ext
 ·simp
 ·intro i h1 h2
  simp only [Array.getElem_modify,Array.getElem_push]
  by_cases e : i < xs.size
  ·rw [dif_pos e,dif_pos e,if_neg (by omega)]
  ·rw [dif_neg e,dif_neg e,if_pos (by simp at h2;omega)]
theorem modify_eq_of {α : Type} {xs : Array α} {j : Nat} {f g : α → α} (h : ∀ x,xs[j]? = some x → f x = g x) : xs.modify j f = xs.modify j g:=by
 apply Array.ext
 ·simp
 ·intro i h1 h2
  simp only [Array.getElem_modify]
  by_cases e : j = i
  ·subst e
   rw [if_pos rfl,if_pos rfl]
   exact h _ (by rw [Array.getElem?_eq_getElem])
  ·rw [if_neg e,if_neg e]
theorem modify_modify {α : Type} (xs : Array α) (j : Nat) (f g : α → α) : (xs.modify j f).modify j g = xs.modify j (fun x=>g (f x)):=by
 apply Array.ext
 ·simp
 ·intro i h1 h2
  simp only [Array.getElem_modify]
  by_cases e : j = i
  ·rw [if_pos e,if_pos e,if_pos e]
  ·rw [if_neg e,if_neg e,if_neg e]
theorem entry_runs {P : Program} {k t e : TypeId} {b : Nat} {w : World} {es : Array MapEntry} {clock : Nat} {H : Type} {R : Value → Option (DataW H × List MemPlace)} (K : Maps.Keyed P k) (ht : P.underlying t = some (.map k e)) (hb : w.heap[b]? = some (.map es clock)) (F : Fit P k R es clock)
  {key z : Value} {kl : Lit} (hkey : keyOf P k key = some kl) (hz : ∀ w,(zeroValue e).run P w = .ok z w) :
  ∃ (c : Nat) (u : Value) (w1 : World),(Instr.lookup t (.map (some b)) key false).run P w = .ok u w ∧ (Instr.mapEntry t (.map (some b)) key).run P w = .ok (.tuple #[u,.int .i64 (c : Int)]) w1 ∧ (Instr.mapUpdate t (.map (some b)) key u).run P w = .ok () w1 ∧
   ∀ v,(Instr.entryStore t (.map (some b)) (.int .i64 (c : Int)) v).run P w1 = (Instr.mapUpdate t (.map (some b)) key v).run P w:=by
 have hst:=(stamped_iff es clock).1 F.stamped
 rcases K.find w hkey es.toList F.keys with ⟨h1,h2⟩|⟨j,e0,h1,h2,h3⟩
 ·refine ⟨clock,z,setBlock w b (.map (es.push ⟨key,z,clock⟩) (clock + 1)),?_,?_,?_,fun v=>?_⟩
  ·simp [Instr.lookup,run_underlying ht,MapKept.run_getObj_map hb,K.check w _ hkey,h1,hz,Result.andThen]
  ·simp [Instr.mapEntry,run_underlying ht,MapKept.run_getObj_map hb,K.check w false hkey,h1,hz,MapKept.run_setObj_map _ hb,Result.andThen,setBlock,goInt]
  ·simp [Instr.mapUpdate,run_underlying ht,MapKept.run_getObj_map hb,K.check w false hkey,h1,MapKept.run_setObj_map _ hb,Result.andThen,setBlock]
  ·have hb1:=heap_setBlock_at hb (.map (es.push ⟨key,z,clock⟩) (clock + 1))
   have hfi : (es.push (⟨key,z,clock⟩ : MapEntry)).findIdx? (fun e=>(e.born : Int) == (clock : Int)) = some es.size:=by
    rw [Array.findIdx?_eq_some_iff_getElem]
    refine ⟨by simp,by simp,fun j hj=>?_⟩
    have:=hst.1 es[j] (by simp)
    rw [Array.getElem_push_lt hj]
    simp
    omega
   have e1 : (Instr.entryStore t (.map (some b)) (.int .i64 (clock : Int)) v).run P (setBlock w b (.map (es.push ⟨key,z,clock⟩) (clock + 1))) = .ok () (setBlock w b (.map (es.push ⟨key,v,clock⟩) (clock + 1))):=by
    simp [Instr.entryStore,MapKept.run_getObj_map hb1,asInt,asIntOf,hfi,MapKept.run_setObj_map _ hb1,Result.andThen]
    rw [modify_push]
    exact setBlock_twice _ _ _ _
   rw [e1]
   simp [Instr.mapUpdate,run_underlying ht,MapKept.run_getObj_map hb,K.check w false hkey,h1,MapKept.run_setObj_map _ hb,Result.andThen,setBlock]
 ·have hj : es[j]? = some e0:=by simpa using h2
  have hjs : j < es.size:=(Array.getElem?_eq_some_iff.1 hj).1
  have hje : es[j] = e0:=(Array.getElem?_eq_some_iff.1 hj).2
  refine ⟨e0.born,e0.val,setBlock w b (.map (es.modify j fun e=>{ e with key }) clock),?_,?_,?_,fun v=>?_⟩
  ·simp [Instr.lookup,run_underlying ht,MapKept.run_getObj_map hb,K.check w _ hkey,h1,Result.andThen]
  ·simp [Instr.mapEntry,run_underlying ht,MapKept.run_getObj_map hb,K.check w false hkey,h1,hj,h3,K.stays w hkey,MapKept.run_setObj_map _ hb,Result.andThen,setBlock,goInt]
  ·simp [Instr.mapUpdate,run_underlying ht,MapKept.run_getObj_map hb,K.check w false hkey,h1,hj,h3,K.stays w hkey,MapKept.run_setObj_map _ hb,Result.andThen,setBlock]
   congr 2
   refine modify_eq_of fun x hx=>?_
   rw [hj] at hx
   obtain rfl:=Option.some.inj hx
   rfl
  ·have hb1:=heap_setBlock_at hb (.map (es.modify j fun e=>{ e with key }) clock)
   have hfi : (es.modify j fun e=>{ e with key }).findIdx? (fun e=>(e.born : Int) == (e0.born : Int)) = some j:=by
    rw [Array.findIdx?_eq_some_iff_getElem]
    refine ⟨by simpa using hjs,by simp [Array.getElem_modify,hje],fun i hi=>?_⟩
    have hlt : i < es.size:=by omega
    have hne : es[i].born ≠ e0.born:=fun e=>by
     have h5 : (es.toList.map (·.born))[i]? = (es.toList.map (·.born))[j]?:=by
      rw [List.getElem?_map,List.getElem?_map,Array.getElem?_toList,Array.getElem?_toList,hj,Array.getElem?_eq_getElem hlt,Option.map_some,Option.map_some,e]
     have:=(List.getElem?_inj (by simpa using hlt) hst.2.1).1 h5
     omega
    simp only [Array.getElem_modify,beq_iff_eq]
    rw [if_neg (by omega)]
    omega
   have e1 : (Instr.entryStore t (.map (some b)) (.int .i64 (e0.born : Int)) v).run P (setBlock w b (.map (es.modify j fun e=>{ e with key }) clock)) = .ok () (setBlock w b (.map (es.modify j fun e=>{ e with key,val:=v }) clock)):=by
    simp [Instr.entryStore,MapKept.run_getObj_map hb1,asInt,asIntOf,hfi,MapKept.run_setObj_map _ hb1,Result.andThen]
    rw [modify_modify]
    exact setBlock_twice _ _ _ _
   rw [e1]
   simp [Instr.mapUpdate,run_underlying ht,MapKept.run_getObj_map hb,K.check w false hkey,h1,hj,h3,K.stays w hkey,MapKept.run_setObj_map _ hb,Result.andThen,setBlock]
section
variable {κ β : Type} [DecidableEq κ] {T : KT κ} {val : β → Value} {w : World} {b : Nat} {L : List (κ × β)}
theorem MapL.entry (h : MapL T val w b L) (hT : T.Is) {t e : TypeId} (ht : Try.prog.underlying t = some (.map T.t e)) (d : β) (hz : ∀ w,(zeroValue e).run Try.prog w = .ok (val d) w) (hn : L.length < maxLen) {k : κ} (hk : T.ok k) :
  ∃ (c : Nat) (w1 : World),(Instr.mapEntry t (.map (some b)) (T.mkv k)).run Try.prog w = .ok (.tuple #[val (Pf.look d L k),.int .i64 (c : Int)]) w1 ∧ (Instr.lookup t (.map (some b)) (T.mkv k) false).run Try.prog w1 = .ok (val (Pf.look d L k)) w1 ∧ w.grownBy w1 (some b) ∧
   ∀ v : β,∃ w2,(Instr.entryStore t (.map (some b)) (.int .i64 (c : Int)) (val v)).run Try.prog w1 = .ok () w2 ∧ MapL T val w2 b (alt d L k (fun _=>v)) ∧ w.grownBy w2 (some b):=by
 have hlk:=h.look hT ht d (hz w) hk
 have hput:=fun v=>h.put hT ht d hn hk v
 obtain ⟨D,⟨es,clock,hb,F,-,-⟩,-⟩:=h
 obtain ⟨c,u,w1,r1,r2,r3,r4⟩:=entry_runs hT.keyed ht hb F (hT.of hk) hz
 rw [hlk] at r1
 obtain rfl : u = val (Pf.look d L k):=by
  have:=r1
  simp only [Result.ok.injEq] at this
  exact this.1.symm
 obtain ⟨w1',q1,q2,q3⟩:=hput (Pf.look d L k)
 rw [r3] at q1
 simp only [Result.ok.injEq,true_and] at q1
 subst q1
 refine ⟨c,w1,r2,?_,q3,fun v=>?_⟩
 ·have:=q2.look hT ht d (hz w1) hk
  rw [Pf.look_alt,if_pos rfl] at this
  exact this
 ·obtain ⟨w2,s1,s2,s3⟩:=hput v
  exact ⟨w2,(r4 _).trans s1,s2,s3⟩
end
end Go.Proofs.Ytfphiomhlhpphaa
namespace Go.Proofs.Ytfphiomhlhpphaa.Pf
structure O where
 d : Int
 f : Int
 x : Site
 k : Int
 least : Int
def step1 (s : St) (o : O) : St:=if o.d = 0 then s.enter o.f else if o.d = 1 then s.back o.x else s.call o.x o.k 1
def run (l : List O) : St:=l.foldl step1 st0
def sat (n : Nat) : Int:=if (n : Int) ≤ M then (n : Int) else M
def isE (f : Int) (o : O) : Bool:=decide (o.d = 0 ∧ o.f = f)
def isJ (x : Site) (o : O) : Bool:=decide (o.d = 1 ∧ o.x = x)
def isC (x : Site) (o : O) : Bool:=decide (¬ o.d = 0 ∧ ¬ o.d = 1 ∧ o.x = x)
def isK (x : Site) (k : Int) (o : O) : Bool:=decide (¬ o.d = 0 ∧ ¬ o.d = 1 ∧ o.x = x ∧ o.k = k)
def nE (l : List O) (f : Int) : Nat:=l.countP (isE f)
def nJ (l : List O) (x : Site) : Nat:=l.countP (isJ x)
def nC (l : List O) (x : Site) : Nat:=l.countP (isC x)
def nK (l : List O) (x : Site) (k : Int) : Nat:=l.countP (isK x k)
theorem M_pos : (0 : Int) < M:=by unfold M;omega
theorem sat_more (n m : Nat) : more (sat n) (sat m) = sat (n + m):=by
 have:=M_pos
 unfold more sat
 repeat' split
 all_goals omega
theorem sat_one : sat 1 = 1:=by
 unfold sat M
 omega
theorem count_snoc (p : O → Bool) (l : List O) (o : O) : (l ++ [o]).countP p = l.countP p + if p o = true then 1 else 0:=by
 rw [List.countP_append,List.countP_singleton]
def sum : List Sn → Int
 | []=>0
 | y :: l=>y.2 + sum l
theorem sum_alt : ∀ (l : List Sn) (k : Int) (g : Int → Int),sum (alt 0 l k g) = sum l - look 0 l k + g (look 0 l k)
 | [],k,g=>by simp [alt,sum,look]
 | y :: l,k,g=>by
  unfold alt look
  by_cases e : y.1 = k
  ·rw [if_pos e,if_pos e]
   show g y.2 + sum l = y.2 + sum l - y.2 + g y.2
   omega
  ·rw [if_neg e,if_neg e]
   show y.2 + sum (alt 0 l k g) = y.2 + sum l - _ + _
   rw [sum_alt l k g]
   omega
theorem sum_nonneg : ∀ {l : List Sn},(∀ y ∈ l,Bd y.2) → 0 ≤ sum l
 | [],_=>Int.le_refl _
 | y :: l,h=>by
  have h1:=(h y (by simp)).1
  have h2:=sum_nonneg (l:=l) (fun z hz=>h z (by simp [hz]))
  show 0 ≤ y.2 + sum l
  omega
theorem look_sum : ∀ {l : List Sn},(∀ y ∈ l,Bd y.2) → ∀ k,look 0 l k ≤ sum l
 | [],_,k=>Int.le_refl _
 | y :: l,h,k=>by
  have h1:=(h y (by simp)).1
  have h2:=sum_nonneg (l:=l) (fun z hz=>h z (by simp [hz]))
  have h3:=look_sum (l:=l) (fun z hz=>h z (by simp [hz])) k
  unfold look
  show _ ≤ y.2 + sum l
  split <;> omega
theorem more_le {n : Int} (h : Bd n) : more n 1 ≤ n + 1:=by
 unfold Bd more at *
 split <;> omega
theorem more_one {n : Int} (h : n < M) : more n 1 = n + 1:=by
 unfold more
 rw [if_neg (by omega)]
structure CInv (c : List Sn × Bool) (done : List O) (x : Site) : Prop where
 ok : OkC c
 look : c.2 = false → ∀ k,look 0 c.1 k = sat (nK done x k)
 keys : c.2 = false → ∀ k,k ∈ keys c.1 ↔ 0 < nK done x k
 le : sum c.1 ≤ nC done x
 eq : c.2 = false → (nC done x : Int) ≤ M → sum c.1 = nC done x
theorem CInv.other {c : List Sn × Bool} {done : List O} {x : Site} {o : O} (h : CInv c done x) (hc : isC x o = false) : CInv c (done ++ [o]) x:=by
 have e1 : nC (done ++ [o]) x = nC done x:=by unfold nC;rw [count_snoc,hc];rfl
 have e2 : ∀ k,nK (done ++ [o]) x k = nK done x k:=fun k=>by
  unfold nK
  rw [count_snoc,if_neg]
  ·rfl
  ·unfold isC at hc
   unfold isK
   simp only [decide_eq_false_iff_not,decide_eq_true_eq] at hc ⊢
   exact fun h=>hc ⟨h.1,h.2.1,h.2.2.1⟩
 exact ⟨h.ok,fun hf k=>by rw [e2];exact h.look hf k,fun hf k=>by rw [e2];exact h.keys hf k,by rw [e1];exact h.le,fun hf=>by rw [e1];exact h.eq hf⟩
theorem CInv.cnt {c : List Sn × Bool} {done : List O} {x : Site} {o : O} (h : CInv c done x) (hc : isC x o = true) : CInv (cnt c o.k 1) (done ++ [o]) x:=by
 have e1 : nC (done ++ [o]) x = nC done x + 1:=by unfold nC;rw [count_snoc,hc];rfl
 have hc' : ¬ o.d = 0 ∧ ¬ o.d = 1 ∧ o.x = x:=by simpa [isC] using hc
 have e2 : ∀ k,nK (done ++ [o]) x k = nK done x k + if k = o.k then 1 else 0:=fun k=>by
  unfold nK
  rw [count_snoc]
  by_cases e : k = o.k
  ·rw [if_pos e,if_pos (by simp [isK,hc',e])]
  ·rw [if_neg e,if_neg (by simp [isK,hc'];exact fun h=>e h.symm)]
 have ok:=okC_cnt h.ok (k:=o.k) bd1
 unfold Pf.cnt at ok ⊢
 by_cases hk : o.k ∈ Pf.keys c.1 ∨ c.1.length < 4
 ·rw [if_pos hk] at ok ⊢
  have hls:=look_sum h.ok.bd o.k
  have hle:=h.le
  have hb : Bd (Pf.look 0 c.1 o.k):=by
   by_cases hm : o.k ∈ Pf.keys c.1
   ·obtain ⟨y,hy,e⟩:=List.mem_map.1 hm
    rw [← e,look_mem h.ok.nd hy]
    exact h.ok.bd y hy
   ·rw [look_not hm]
    exact bd0
  refine ⟨ok,fun hf k=>?_,fun hf k=>?_,?_,fun hf hM=>?_⟩
  ·show Pf.look 0 (alt 0 c.1 o.k _) k = _
   rw [look_alt,e2,h.look hf,h.look hf]
   by_cases e : k = o.k
   ·rw [if_pos e,if_pos e,e,← sat_one,sat_more]
   ·rw [if_neg e,if_neg e]
    rfl
  ·show k ∈ Pf.keys (alt 0 c.1 o.k _) ↔ _
   rw [keys_alt,keys_addk,e2]
   have h1:=h.keys hf k
   by_cases e : k = o.k
   ·subst e
    rw [if_pos rfl]
    constructor
    ·intro _
     omega
    ·intro _
     split
     ·assumption
     ·simp
   ·rw [if_neg e,Nat.add_zero,← h1]
    split
    ·exact Iff.rfl
    ·simp [e]
  ·show sum (alt 0 c.1 o.k _) ≤ _
   rw [sum_alt,e1]
   have:=more_le hb
   show sum c.1 - _ + more _ 1 ≤ _
   omega
  ·show sum (alt 0 c.1 o.k _) = _
   rw [sum_alt,e1]
   rw [e1] at hM
   have h2:=h.eq hf (by omega)
   have:=more_one (n:=Pf.look 0 c.1 o.k) (by omega)
   show sum c.1 - _ + more _ 1 = _
   omega
 ·rw [if_neg hk] at ok ⊢
  have hle:=h.le
  exact ⟨ok,(fun hf=>by cases hf),(fun hf=>by cases hf),(by show sum c.1 ≤ _;rw [e1];omega),(fun hf=>by cases hf)⟩
end Go.Proofs.Ytfphiomhlhpphaa.Pf
namespace Go.Proofs.Ytfphiomhlhpphaa
open Go Go.RowKit
open Pf (Site Sn ix addk alt keys O)
set_option maxRecDepth 100000
set_option maxHeartbeats 2000000
def oL (o : O) : List Value:=[.int .i64 o.d,.int .i64 o.f,.int .i64 o.x.1,.int .i64 o.x.2,.int .i64 o.k,.int .i64 o.least]
theorem oL_len (o : O) : (oL o).length = 6:=rfl
structure GoodO (o : O) : Prop where
 d : I8 o.d
 f : I8 o.f
 x : TS.ok o.x
 k : I8 o.k
 least : I8 o.least
theorem oS_at {w : World} {v : Value} {l : List O} (h : Kit.IsS 6 w v l.length (l.flatMap oL)) {k : Nat} {x : O} (hx : l[k]? = some x) : ∃ b o cap,v = .slice (some ⟨b,o,none⟩) l.length cap ∧ b < w.heap.size ∧ w.cell? ⟨b,o + k * 6,none⟩ = some (.int .i64 x.d) ∧ w.cell? ⟨b,o + k * 6 + 1,none⟩ = some (.int .i64 x.f) ∧ w.cell? ⟨b,o + k * 6 + 2,none⟩ = some (.int .i64 x.x.1) ∧ w.cell? ⟨b,o + k * 6 + 3,none⟩ = some (.int .i64 x.x.2) ∧ w.cell? ⟨b,o + k * 6 + 4,none⟩ = some (.int .i64 x.k) ∧ w.cell? ⟨b,o + k * 6 + 5,none⟩ = some (.int .i64 x.least):=by
 have hk:=(List.getElem?_eq_some_iff.1 hx).1
 obtain ⟨b,o,cap,hv,-,hb,hc⟩:=h.some (by omega)
 have hat : ∀ j,j < 6 → w.cell? ⟨b,o + k * 6 + j,none⟩ = (oL x)[j]?:=fun j hj=>by
  have h2:=Kit.flat_at oL_len hx j hj
  cases h3 : (oL x)[j]? with
  | none=>rw [List.getElem?_eq_none_iff,oL_len] at h3;omega
  | some u =>
   rw [h3] at h2
   have:=hc (k * 6 + j) u h2
   rw [← Nat.add_assoc] at this
   exact this
 exact ⟨b,o,cap,hv,hb,hat 0 (by omega),hat 1 (by omega),hat 2 (by omega),hat 3 (by omega),hat 4 (by omega),hat 5 (by omega)⟩
structure MI (w wr : World) (pb me mj mc : Nat) (p : IV) (n : Nat) (t : Pf.St) (Le : List Sn) (Lj Lc : List (Site × Int)) : Prop where
 pp : PP wr w.heap.size pb p
 ok : OkP p n
 st : p.st = t
 m1 : MapL TI vI wr me Le
 m2 : MapL TS vI wr mj Lj
 m3 : MapL TS vI wr mc Lc
 o1 : ¬ p.foot me
 o2 : ¬ p.foot mj
 o3 : ¬ p.foot mc
 n1 : me ≠ mj
 n2 : me ≠ mc
 n3 : mj ≠ mc
 l1 : w.heap.size ≤ me
 l2 : w.heap.size ≤ mj
 l3 : w.heap.size ≤ mc
 bl : Below w.heap.size w wr
section
variable {w wr w2 : World} {pb me mj mc n : Nat} {p : IV} {t : Pf.St} {Le : List Sn} {Lj Lc : List (Site × Int)}
theorem MI.below (h : MI w wr pb me mj mc p n t Le Lj Lc) (hb : Below wr.heap.size wr w2) : MI w w2 pb me mj mc p n t Le Lj Lc :=
 { h with pp:=h.pp.below hb,m1:=h.m1.below hb,m2:=h.m2.below hb,m3:=h.m3.below hb,bl:=belows h.bl hb h.bl.size }
theorem PP.grown {base : Nat} (h : PP wr base pb p) {m : Nat} (hg : wr.grownBy w2 (some m)) (hm : ¬ p.foot m) (h0 : m ≠ pb) : PP w2 base pb p:=h.chg (grown_chg hg) (fun e=>h0 e.symm) (fun k hk e=>hm (e ▸ hk))
theorem MI.setE (h : MI w wr pb me mj mc p n t Le Lj Lc) (hg : wr.grownBy w2 (some me)) {L : List Sn} (hm : MapL TI vI w2 me L) : MI w w2 pb me mj mc p n t L Lj Lc :=
 { h with pp:=h.pp.grown hg h.o1 (map_ne h.m1 h.pp.box),m1:=hm,m2:=h.m2.chg (grown_chg hg) (fun e=>h.n1 e.symm),m3:=h.m3.chg (grown_chg hg) (fun e=>h.n2 e.symm),bl:=h.bl.grown hg h.bl.size (fun k e=>by have:=h.l1;have:=Option.some.inj e;omega) }
theorem MI.setJ (h : MI w wr pb me mj mc p n t Le Lj Lc) (hg : wr.grownBy w2 (some mj)) {L : List (Site × Int)} (hm : MapL TS vI w2 mj L) : MI w w2 pb me mj mc p n t Le L Lc :=
 { h with pp:=h.pp.grown hg h.o2 (map_ne h.m2 h.pp.box),m1:=h.m1.chg (grown_chg hg) h.n1,m2:=hm,m3:=h.m3.chg (grown_chg hg) (fun e=>h.n3 e.symm),bl:=h.bl.grown hg h.bl.size (fun k e=>by have:=h.l2;have:=Option.some.inj e;omega) }
theorem MI.setC (h : MI w wr pb me mj mc p n t Le Lj Lc) (hg : wr.grownBy w2 (some mc)) {L : List (Site × Int)} (hm : MapL TS vI w2 mc L) : MI w w2 pb me mj mc p n t Le Lj L :=
 { h with pp:=h.pp.grown hg h.o3 (map_ne h.m3 h.pp.box),m1:=h.m1.chg (grown_chg hg) h.n2,m2:=h.m2.chg (grown_chg hg) h.n3,m3:=hm,bl:=h.bl.grown hg h.bl.size (fun k e=>by have:=h.l3;have:=Option.some.inj e;omega) }
theorem MI.step (h : MI w wr pb me mj mc p n t Le Lj Lc) {m : Nat} {t' : Pf.St} (hs : Step wr w2 w.heap.size pb p m t') : ∃ p',MI w w2 pb me mj mc p' m t' Le Lj Lc:=by
 obtain ⟨p',h1,h2,h3,h4,h5⟩:=hs
 have off : ∀ k,¬ p.foot k → k < wr.heap.size → ¬ p'.foot k:=fun k hk hl e=>(h5 k e).elim hk (fun e=>by omega)
 exact ⟨p',{ h with pp:=h1,ok:=h2,st:=h3,m1:=h.m1.chg h4 h.o1,m2:=h.m2.chg h4 h.o2,m3:=h.m3.chg h4 h.o3,o1:=off _ h.o1 h.m1.lt,o2:=off _ h.o2 h.m2.lt,o3:=off _ h.o3 h.m3.lt,bl:=h.bl.trans (h4.to_below (fun k hk=>h.pp.has.low k hk) h.bl.size) }⟩
end
structure CR (Le : List Sn) (Lj Lc : List (Site × Int)) (l : List O) : Prop where
 e : ∀ f,Pf.look 0 Le f = (Pf.nE l f : Int)
 j : ∀ x,Pf.look 0 Lj x = (Pf.nJ l x : Int)
 c : ∀ x,Pf.look 0 Lc x = (Pf.nC l x : Int)
 le : Le.length ≤ l.length
 lj : Lj.length ≤ l.length
 lc : Lc.length ≤ l.length
section
variable {Le : List Sn} {Lj Lc : List (Site × Int)} {l : List O} {o : O}
theorem CR.enter (h : CR Le Lj Lc l) (h0 : o.d = 0) : CR (alt 0 Le o.f (fun _=>Pf.look 0 Le o.f + 1)) Lj Lc (l ++ [o]):=by
 have hn : (l ++ [o]).length = l.length + 1:=by simp
 refine ⟨fun f=>?_,fun x=>?_,fun x=>?_,?_,by have:=h.lj;omega,by have:=h.lc;omega⟩
 ·rw [Pf.look_alt]
  unfold Pf.nE
  rw [Pf.count_snoc]
  by_cases e : f = o.f
  ·rw [if_pos e,if_pos (by simp [Pf.isE,h0,e]),h.e,e]
   rfl
  ·rw [if_neg e,if_neg (by simp [Pf.isE];exact fun _ h=>e h.symm),h.e]
   rfl
 ·unfold Pf.nJ
  rw [Pf.count_snoc,if_neg (by simp [Pf.isJ,h0]),h.j]
  rfl
 ·unfold Pf.nC
  rw [Pf.count_snoc,if_neg (by simp [Pf.isC,h0]),h.c]
  rfl
 ·have:=(Pf.alt_le (d:=(0 : Int)) Le o.f (fun _=>Pf.look 0 Le o.f + 1)).2
  have:=h.le
  omega
theorem CR.back (h : CR Le Lj Lc l) (h0 : ¬ o.d = 0) (h1 : o.d = 1) : CR Le (alt 0 Lj o.x (fun _=>Pf.look 0 Lj o.x + 1)) Lc (l ++ [o]):=by
 have hn : (l ++ [o]).length = l.length + 1:=by simp
 refine ⟨fun f=>?_,fun x=>?_,fun x=>?_,by have:=h.le;omega,?_,by have:=h.lc;omega⟩
 ·unfold Pf.nE
  rw [Pf.count_snoc,if_neg (by simp [Pf.isE,h0]),h.e]
  rfl
 ·rw [Pf.look_alt]
  unfold Pf.nJ
  rw [Pf.count_snoc]
  by_cases e : x = o.x
  ·rw [if_pos e,if_pos (by simp [Pf.isJ,h1,e]),h.j,e]
   rfl
  ·rw [if_neg e,if_neg (by simp [Pf.isJ];exact fun _ h=>e h.symm),h.j]
   rfl
 ·unfold Pf.nC
  rw [Pf.count_snoc,if_neg (by simp [Pf.isC,h1]),h.c]
  rfl
 ·have:=(Pf.alt_le (d:=(0 : Int)) Lj o.x (fun _=>Pf.look 0 Lj o.x + 1)).2
  have:=h.lj
  omega
theorem CR.call (h : CR Le Lj Lc l) (h0 : ¬ o.d = 0) (h1 : ¬ o.d = 1) : CR Le Lj (alt 0 Lc o.x (fun _=>Pf.look 0 Lc o.x + 1)) (l ++ [o]):=by
 have hn : (l ++ [o]).length = l.length + 1:=by simp
 refine ⟨fun f=>?_,fun x=>?_,fun x=>?_,by have:=h.le;omega,by have:=h.lj;omega,?_⟩
 ·unfold Pf.nE
  rw [Pf.count_snoc,if_neg (by simp [Pf.isE,h0]),h.e]
  rfl
 ·unfold Pf.nJ
  rw [Pf.count_snoc,if_neg (by simp [Pf.isJ,h1]),h.j]
  rfl
 ·rw [Pf.look_alt]
  unfold Pf.nC
  rw [Pf.count_snoc]
  by_cases e : x = o.x
  ·rw [if_pos e,if_pos (by simp [Pf.isC,h0,h1,e]),h.c,e]
   rfl
  ·rw [if_neg e,if_neg (by simp [Pf.isC];exact fun _ _ h=>e h.symm),h.c]
   rfl
 ·have:=(Pf.alt_le (d:=(0 : Int)) Lc o.x (fun _=>Pf.look 0 Lc o.x + 1)).2
  have:=h.lc
  omega
end
theorem take_snoc {α : Type} {l : List α} {k : Nat} {x : α} (h : l[k]? = some x) : l.take (k + 1) = l.take k ++ [x]:=by rw [List.take_add_one,h];rfl
end Go.Proofs.Ytfphiomhlhpphaa
namespace Go.Proofs.Ytfphiomhlhpphaa
open Go Go.RowKit
open Pf (Site Sn ix addk alt keys O)
set_option maxRecDepth 100000
set_option maxHeartbeats 2000000
theorem ks_rows {W : World} {b : Nat} {base n : Nat} {e : TypeId} {v : Value} {xs : List Value} {T : TypeId} (h : W.ownsRow base e 2 v n xs) (hb : BX W b #[v] T) (hn : n ≤ 140737488355328) : ∀ X,Ks (fun k=>k < W.heap.size) W X → Kit.IsS 2 X v n xs ∧ X.cell? ⟨b,0,none⟩ = some v:=fun X hX=>by
 obtain ⟨h1,h2,h3⟩:=Kit.isS_of_owns h hn
 refine ⟨⟨h1,h2,?_⟩,(World.cell?_of_block (hX.2 b hb.sz)).trans (hb.cell 0)⟩
 rcases h3 with h3|⟨g,o,c,hv,hr,hbl,hc⟩
 ·exact .inl h3
 ·exact .inr ⟨g,o,c,hv,hr,Nat.lt_of_lt_of_le hbl hX.1,fun i y hi=>(World.cell?_of_block (hX.2 g hbl)).trans (hc i y hi)⟩
theorem ints_of : ∀ Rw : List Sn,Rw.flatMap intV = intsT (Rw.map (·.1))
 | []=>rfl
 | x :: Rw=>by
  rw [List.flatMap_cons,ints_of Rw]
  rfl
theorem toldS {w : World} {Rw : List Sn} {b1 b2 Bs : Nat} {rv v : Value} (hr : RwR w b1 rv Rw) (hb : BX w Bs #[rv] 82) (hv : w.ownsRow b2 3 1 v Rw.length (Rw.flatMap intV)) (hn : Rw.length < 140737488355328) :
  Calls Try.prog 24 #[.func (.func 51) #[] #[.pointer (some ⟨Bs,0,none⟩)],v] w fun e w'=>e = .returned (.bool true) ∧ Below w.heap.size w w':=by
 refine told_any Rw (Rw.map (·.1)) rv v Bs w rfl (ks_rows hr hb (by omega)) ?_ (by omega)
 have:=Kit.isS_of_owns hv (by omega)
 rw [ints_of] at this
 rw [List.length_map]
 exact this
theorem hot_same {A B : List Sn} (hA : (keys A).Nodup) (hB : (keys B).Nodup) (cA : ∀ x ∈ A,1 ≤ x.2) (he : ∀ f,Pf.look 0 A f = Pf.look 0 B f) (least : Int) : Pf.srt (A.filter (atL least)) = Pf.srt (B.filter (hotP least)):=by
 have key : ∀ {L : List Sn},(keys L).Nodup → ∀ x : Sn,(x ∈ L ∧ 1 ≤ x.2) ↔ (Pf.look 0 L x.1 = x.2 ∧ 1 ≤ x.2):=by
  intro L hL x
  refine ⟨fun h=>⟨Pf.look_mem hL h.1,h.2⟩,fun h=>⟨?_,h.2⟩⟩
  by_cases hk : x.1 ∈ keys L
  ·have:=Pf.mem_look_iff (d:=(0 : Int)) hL hk
   rw [h.1] at this
   exact this
  ·have h1:=h.1
   rw [Pf.look_not hk] at h1
   have:=h.2
   omega
 refine Pf.srt_det (Pf.nodup_filter hA _) (Pf.perm_of_mem (Pf.nodup_filter hA _) (Pf.nodup_filter hB _) fun x=>?_)
 rw [List.mem_filter,List.mem_filter]
 unfold atL hotP
 rw [Bool.and_eq_true,decide_eq_true_eq,decide_eq_true_eq]
 constructor
 ·rintro ⟨h1,h2⟩
  have:=(key hA x).1 ⟨h1,cA x h1⟩
  rw [he] at this
  have:=(key hB x).2 this
  exact ⟨this.1,this.2,h2⟩
 ·rintro ⟨h1,h2,h3⟩
  have:=(key hB x).1 ⟨h1,h2⟩
  rw [← he] at this
  exact ⟨((key hA x).2 this).1,h3⟩
structure Duo (w0 w : World) (pb : Nat) (p : IV) (n : Nat) (t : Pf.St) (r : PR) (m : Nat) (u : Pf.St) : Prop where
 pp : PP w w0.heap.size pb p
 ok : OkP p n
 st : p.st = t
 rr : RefR w w0.heap.size r
 gd : Good r m
 rt : r.st = u
 ff : ∀ i,p.foot i → ¬ r.foot i
 rp : ¬ r.foot pb
 bl : Below w0.heap.size w0 w
section
variable {w0 w w' : World} {pb n m : Nat} {p : IV} {t u : Pf.St} {r : PR}
theorem Duo.below (h : Duo w0 w pb p n t r m u) (hb : Below w.heap.size w w') : Duo w0 w' pb p n t r m u :=
 { h with pp:=h.pp.below hb,rr:=h.rr.below hb,bl:=belows h.bl hb h.bl.size }
theorem Duo.stepP (h : Duo w0 w pb p n t r m u) {n' : Nat} {t' : Pf.St} (hs : Step w w' w0.heap.size pb p n' t') : ∃ p',Duo w0 w' pb p' n' t' r m u:=by
 obtain ⟨p',a1,a2,a3,a4,a5⟩:=hs
 exact ⟨p',a1,a2,a3,h.rr.chg a4 (fun k hk e=>h.ff k e hk),h.gd,h.rt,fun i h1 h2=>(a5 i h1).elim (fun e=>h.ff i e h2) (fun e=>by have:=(h.rr.lows i h2).2;omega),h.rp,h.bl.trans (a4.to_below (B:=w0.heap.size) (fun k e=>h.pp.has.low k e) h.bl.size)⟩
theorem Duo.stepR (h : Duo w0 w pb p n t r m u) {m' : Nat} {u' : Pf.St} (hs : StepR w w' w0.heap.size r m' u') : ∃ r',Duo w0 w' pb p n t r' m' u' ∧ r'.pb = r.pb:=by
 obtain ⟨r',a1,a2,a3,a4,a5,a6⟩:=hs
 exact ⟨r',⟨h.pp.chg a5 h.rp (fun k hk e=>h.ff k hk e),h.ok,h.st,a1,a2,a3,fun i h1 h2=>(a6 i h2).elim (fun e=>h.ff i h1 e) (fun e=>by have:=h.pp.has.lt i h1;omega),fun h2=>(a6 _ h2).elim h.rp (fun e=>by have:=h.pp.box.sz;omega),h.bl.trans (a5.to_below (B:=w0.heap.size) (fun k e=>(h.rr.lows k e).1) h.bl.size)⟩,a4⟩
end
end Go.Proofs.Ytfphiomhlhpphaa
namespace Go.Proofs.Ytfphiomhlhpphaa
open Go Go.RowKit
open Pf (Site Sn ix addk alt keys O)
set_option maxRecDepth 100000
set_option maxHeartbeats 8000000
section
variable {w0 w : World} {pb n m : Nat} {p : IV} {t : Pf.St} {r : PR}
theorem equal_any (h : Duo w0 w pb p n t r m t) (hn : n < 2932031007340) (hm : m < 2932031007340) {o : O} (hg : GoodO o) :
  Calls Try.prog 11 #[.pointer (some ⟨pb,0,none⟩),.pointer (some ⟨r.pb,0,none⟩),.agg (oL o).toArray] w (EqPost w):=by
 obtain ⟨d,f,⟨x1,x2⟩,q,ls⟩:=o
 unfold oL
 dsimp only
 have heN : ∀ g,Pf.look 0 p.E g = t.en g:=fun g=>congrFun (congrArg Pf.St.en h.st) g
 have heR : ∀ g,Pf.look 0 r.E g = t.en g:=fun g=>congrFun (congrArg Pf.St.en h.rt) g
 have hjR : ∀ g,Pf.look 0 r.J g = t.ju g:=fun g=>congrFun (congrArg Pf.St.ju h.rt) g
 have hcR : ∀ g,(Pf.look ce0 r.C g).2 = t.ca g:=fun g=>congrFun (congrArg Pf.St.ca h.rt) g
 have hokc : Pf.OkC (t.ca (x1,x2)):=by rw [← hcR];exact h.gd.okc _
 have D:=fun W (hb : Below w.heap.size w W)=>h.below hb
 have lE:=h.gd.le
 have lJ:=h.gd.lj
 have lC:=h.gd.lc
 have HEn:=hid (fun W (hb : Below w.heap.size w W)=>(by have:=enteredS (D W hb).pp hg.f;rw [h.st] at this;exact this : Calls Try.prog 15 #[.pointer (some ⟨pb,0,none⟩),.int .i64 f] W fun e w'=>e = .returned (.int .i64 (t.en f)) ∧ Below W.heap.size W w'))
 have HrEn:=hid (fun W (hb : Below w.heap.size w W)=>(by have:=rEntered_any (D W hb).rr (by omega) f;rw [heR] at this;exact this : Calls Try.prog 34 #[.pointer (some ⟨r.pb,0,none⟩),.int .i64 f] W fun e w'=>e = .returned (.int .i64 (t.en f)) ∧ w' = W))
 have HJu:=hid (fun W (hb : Below w.heap.size w W)=>(by have:=jumpedS (D W hb).pp hg.x;rw [h.st] at this;exact this : Calls Try.prog 16 #[.pointer (some ⟨pb,0,none⟩),.agg #[.int .i64 x1,.int .i64 x2]] W fun e w'=>e = .returned (.int .i64 (t.ju (x1,x2))) ∧ Below W.heap.size W w'))
 have HrJu:=hid (fun W (hb : Below w.heap.size w W)=>(by have:=rJumped_any (D W hb).rr (by omega) (x1,x2);rw [hjR] at this;exact this : Calls Try.prog 35 #[.pointer (some ⟨r.pb,0,none⟩),.agg #[.int .i64 x1,.int .i64 x2]] W fun e w'=>e = .returned (.int .i64 (t.ju (x1,x2))) ∧ Below W.heap.size W w'))
 have HKi:=hid (fun W (hb : Below w.heap.size w W)=>(by have:=kindS (D W hb).pp hg.x;rw [h.st] at this;exact this : Calls Try.prog 18 #[.pointer (some ⟨pb,0,none⟩),.agg #[.int .i64 x1,.int .i64 x2]] W fun e w'=>e = .returned (.int .i64 (Pf.kind (t.ca (x1,x2)))) ∧ Below W.heap.size W w'))
 have HrKi:=hid (fun W (hb : Below w.heap.size w W)=>(by have:=rKind_any (D W hb).rr (by omega) (x1,x2);rw [hcR] at this;exact this : Calls Try.prog 36 #[.pointer (some ⟨r.pb,0,none⟩),.agg #[.int .i64 x1,.int .i64 x2]] W fun e w'=>e = .returned (.int .i64 (Pf.kind (t.ca (x1,x2)))) ∧ Below W.heap.size W w'))
 have HCs:=hid (fun W (hb : Below w.heap.size w W)=>(by have:=classesS (D W hb).pp h.ok hg.x;rw [h.st] at this;exact this : Calls Try.prog 17 #[.pointer (some ⟨pb,0,none⟩),.agg #[.int .i64 x1,.int .i64 x2]] W fun e w'=>∃ v,e = .returned v ∧ w'.ownsRow W.heap.size 44 2 v (Pf.srt (t.ca (x1,x2)).1).length ((Pf.srt (t.ca (x1,x2)).1).flatMap evL) ∧ Below W.heap.size W w'))
 have HrCs:=hid (fun W (hb : Below w.heap.size w W)=>(by have:=rClasses_any (D W hb).rr (by omega) (x1,x2) (h.gd.okc _);rw [hcR] at this;exact this : Calls Try.prog 38 #[.pointer (some ⟨r.pb,0,none⟩),.agg #[.int .i64 x1,.int .i64 x2]] W fun e w'=>∃ v,e = .returned v ∧ w'.ownsRow W.heap.size 44 2 v (Pf.srt (t.ca (x1,x2)).1).length ((Pf.srt (t.ca (x1,x2)).1).flatMap evL) ∧ Below W.heap.size W w'))
 have HMn:=hid (fun W (hb : Below w.heap.size w W)=>(by have:=mainS (D W hb).pp h.ok hg.x;rw [h.st] at this;exact this : Calls Try.prog 23 #[.pointer (some ⟨pb,0,none⟩),.agg #[.int .i64 x1,.int .i64 x2]] W fun e w'=>e = .returned (.tuple #[.int .i64 (mainC (t.ca (x1,x2))).1,.bool (mainC (t.ca (x1,x2))).2]) ∧ Below W.heap.size W w'))
 have HrMn:=hid (fun W (hb : Below w.heap.size w W)=>(by have:=rMain_any (D W hb).rr (by omega) (x1,x2) (h.gd.okc _);rw [hcR] at this;exact this : Calls Try.prog 33 #[.pointer (some ⟨r.pb,0,none⟩),.agg #[.int .i64 x1,.int .i64 x2]] W fun e w'=>e = .returned (.tuple #[.int .i64 (mainC (t.ca (x1,x2))).1,.bool (mainC (t.ca (x1,x2))).2]) ∧ Below W.heap.size W w'))
 have hRw:=hot_same h.pp.has.me.nd h.gd.ne (fun x hx=>(h.ok.be x hx).1) (fun g=>(heN g).trans (heR g).symm) ls
 have hlr : (Pf.srt (p.E.filter (atL ls))).length ≤ p.E.length:=by rw [Pf.srt_len];exact List.length_filter_le _ _
 have hlp:=h.ok.le
 obtain ⟨Rw,hRwe⟩ : ∃ x,Pf.srt (p.E.filter (atL ls)) = x:=⟨_,rfl⟩
 have HHo:=hid (fun W (hb : Below w.heap.size w W)=>(by have:=hot_any (D W hb).pp.sees (by omega) ls;rw [hRwe] at this;exact this : Calls Try.prog 25 #[.pointer (some ⟨pb,0,none⟩),.int .i64 ls] W (HotPost W Rw)))
 have HrHo:=hid (fun W (hb : Below w.heap.size w W)=>(by have:=rHot_any (D W hb).rr (by omega) ls;rw [← hRw,hRwe] at this;exact this : Calls Try.prog 39 #[.pointer (some ⟨r.pb,0,none⟩),.int .i64 ls] W fun e w'=>∃ v,e = .returned v ∧ w'.ownsRow W.heap.size 3 1 v Rw.length (Rw.flatMap intV) ∧ Below W.heap.size W w'))
 have HLh : Hid (Rw.length < 140737488355328):=by show _ < _;rw [← hRwe];omega
 have HLn : Hid ((Pf.srt (t.ca (x1,x2)).1).length ≤ 140737488355328):=by show _ ≤ _;rw [Pf.srt_len];have:=hokc.ln;omega
 obtain ⟨S,hS⟩ : ∃ x,Pf.srt (t.ca (x1,x2)).1 = x:=⟨_,rfl⟩
 obtain ⟨kd,hkd⟩ : ∃ x,Pf.kind (t.ca (x1,x2)) = x:=⟨_,rfl⟩
 obtain ⟨en,hen⟩ : ∃ x,t.en f = x:=⟨_,rfl⟩
 obtain ⟨ju,hju⟩ : ∃ x,t.ju (x1,x2) = x:=⟨_,rfl⟩
 obtain ⟨⟨mc,mb⟩,hmc⟩ : ∃ x,mainC (t.ca (x1,x2)) = x:=⟨_,rfl⟩
 rw [hS] at HCs HrCs HLn
 rw [hkd] at HKi HrKi
 rw [hen] at HEn HrEn
 rw [hju] at HJu HrJu
 rw [hmc] at HMn HrMn
 dsimp only at HMn HrMn
 unfold HotPost at HHo
 obtain ⟨w1,hw1⟩ : ∃ w1,w1 = w.alloc (.cells #[.int .i64 d,.int .i64 f,.int .i64 x1,.int .i64 x2,.int .i64 q,.int .i64 ls] 31):=⟨_,rfl⟩
 have hb1 : Below w.heap.size w w1:=by rw [hw1];exact (Below.refl _ _).alloc (Nat.le_refl _) _
 have bx : BX w1 w.heap.size #[.int .i64 d,.int .i64 f,.int .i64 x1,.int .i64 x2,.int .i64 q,.int .i64 ls] 31:=by rw [hw1];exact BX.new w _ _
 have HW1:=hid hw1
 have HB1:=hid hb1
 have HX:=hid (fun X (hb : Below w1.heap.size w1 X)=>(show X.cell? ⟨w.heap.size,1,none⟩ = some (.int .i64 f) ∧ X.cell? ⟨w.heap.size,2,none⟩ = some (.int .i64 x1) ∧ X.cell? ⟨w.heap.size,3,none⟩ = some (.int .i64 x2) ∧ X.cell? ⟨w.heap.size,5,none⟩ = some (.int .i64 ls) from ⟨(bx.below hb).cell 1,(bx.below hb).cell 2,(bx.below hb).cell 3,(bx.below hb).cell 5⟩))
 clear heN heR hjR hcR hokc lE lJ lC hRw hlr hlp hRwe hS hkd hen hju hmc D h hn hm hg hw1 hb1 bx
 obtain ⟨y1,y2,y3,y5⟩:=HX.out w1 (Below.refl _ _)
 have HBc:=hid (Below.refl w1.heap.size w1)
 go_enter Try.func11,Try.ntmps11
 go_upto_region 1 with fail
 rw [← HW1.out]
 go_upto_region 3 with (first
  | (go_at_call 23;refine (HMn.out _ (belows HB1.out (show Below w1.heap.size w1 _ from (by first|exact HBc.out|exact Below.drew HBc.out)) HB1.out.size)).mono ?_;rintro e X ⟨rfl,hb⟩;have hbc:=belows (show Below w1.heap.size w1 _ from (by first|exact HBc.out|exact Below.drew HBc.out)) hb (by first|exact HBc.out.size|exact (Below.drew HBc.out).size);clear HBc hb y1 y2 y3 y5;have HBc:=hid hbc;clear hbc;obtain ⟨y1,y2,y3,y5⟩:=HX.out _ HBc.out)
  | (go_at_call 33;refine (HrMn.out _ (belows HB1.out (show Below w1.heap.size w1 _ from (by first|exact HBc.out|exact Below.drew HBc.out)) HB1.out.size)).mono ?_;rintro e X ⟨rfl,hb⟩;have hbc:=belows (show Below w1.heap.size w1 _ from (by first|exact HBc.out|exact Below.drew HBc.out)) hb (by first|exact HBc.out.size|exact (Below.drew HBc.out).size);clear HBc hb y1 y2 y3 y5;have HBc:=hid hbc;clear hbc;obtain ⟨y1,y2,y3,y5⟩:=HX.out _ HBc.out))
 go_region_held3 (fun X=>X.cell? ⟨w.heap.size,1,none⟩ = some (.int .i64 f) ∧ X.cell? ⟨w.heap.size,2,none⟩ = some (.int .i64 x1) ∧ X.cell? ⟨w.heap.size,3,none⟩ = some (.int .i64 x2) ∧ X.cell? ⟨w.heap.size,5,none⟩ = some (.int .i64 ls))
  (first|exact ⟨y1,y2,y3,y5⟩|go_keep)
  (first
   | (go_at_call 15;refine (HEn.out _ (belows HB1.out (show Below w1.heap.size w1 _ from (by first|exact HBc.out|exact Below.drew HBc.out)) HB1.out.size)).mono ?_;rintro e X ⟨rfl,hb⟩;have hbc:=belows (show Below w1.heap.size w1 _ from (by first|exact HBc.out|exact Below.drew HBc.out)) hb (by first|exact HBc.out.size|exact (Below.drew HBc.out).size);clear HBc hb y1 y2 y3 y5;have HBc:=hid hbc;clear hbc;obtain ⟨y1,y2,y3,y5⟩:=HX.out _ HBc.out)
   | (go_at_call 34;refine (HrEn.out _ (belows HB1.out (show Below w1.heap.size w1 _ from (by first|exact HBc.out|exact Below.drew HBc.out)) HB1.out.size)).mono ?_;rintro e X ⟨rfl,hXe⟩;replace hXe:=hXe.symm;subst hXe)
   | (go_at_call 16;refine (HJu.out _ (belows HB1.out (show Below w1.heap.size w1 _ from (by first|exact HBc.out|exact Below.drew HBc.out)) HB1.out.size)).mono ?_;rintro e X ⟨rfl,hb⟩;have hbc:=belows (show Below w1.heap.size w1 _ from (by first|exact HBc.out|exact Below.drew HBc.out)) hb (by first|exact HBc.out.size|exact (Below.drew HBc.out).size);clear HBc hb y1 y2 y3 y5;have HBc:=hid hbc;clear hbc;obtain ⟨y1,y2,y3,y5⟩:=HX.out _ HBc.out)
   | (go_at_call 35;refine (HrJu.out _ (belows HB1.out (show Below w1.heap.size w1 _ from (by first|exact HBc.out|exact Below.drew HBc.out)) HB1.out.size)).mono ?_;rintro e X ⟨rfl,hb⟩;have hbc:=belows (show Below w1.heap.size w1 _ from (by first|exact HBc.out|exact Below.drew HBc.out)) hb (by first|exact HBc.out.size|exact (Below.drew HBc.out).size);clear HBc hb y1 y2 y3 y5;have HBc:=hid hbc;clear hbc;obtain ⟨y1,y2,y3,y5⟩:=HX.out _ HBc.out)
   | (go_at_call 18;refine (HKi.out _ (belows HB1.out (show Below w1.heap.size w1 _ from (by first|exact HBc.out|exact Below.drew HBc.out)) HB1.out.size)).mono ?_;rintro e X ⟨rfl,hb⟩;have hbc:=belows (show Below w1.heap.size w1 _ from (by first|exact HBc.out|exact Below.drew HBc.out)) hb (by first|exact HBc.out.size|exact (Below.drew HBc.out).size);clear HBc hb y1 y2 y3 y5;have HBc:=hid hbc;clear hbc;obtain ⟨y1,y2,y3,y5⟩:=HX.out _ HBc.out)
   | (go_at_call 36;refine (HrKi.out _ (belows HB1.out (show Below w1.heap.size w1 _ from (by first|exact HBc.out|exact Below.drew HBc.out)) HB1.out.size)).mono ?_;rintro e X ⟨rfl,hb⟩;have hbc:=belows (show Below w1.heap.size w1 _ from (by first|exact HBc.out|exact Below.drew HBc.out)) hb (by first|exact HBc.out.size|exact (Below.drew HBc.out).size);clear HBc hb y1 y2 y3 y5;have HBc:=hid hbc;clear hbc;obtain ⟨y1,y2,y3,y5⟩:=HX.out _ HBc.out)
   | (go_at_call 17;refine (HCs.out _ (belows HB1.out (show Below w1.heap.size w1 _ from (by first|exact HBc.out|exact Below.drew HBc.out)) HB1.out.size)).mono ?_;rintro e X ⟨vc,rfl,hown,hb⟩;have hbc:=belows (show Below w1.heap.size w1 _ from (by first|exact HBc.out|exact Below.drew HBc.out)) hb (by first|exact HBc.out.size|exact (Below.drew HBc.out).size);have HvC:=hid (Kit.isS_of_owns hown HLn.out);clear hown;clear HBc hb y1 y2 y3 y5;have HBc:=hid hbc;clear hbc;obtain ⟨y1,y2,y3,y5⟩:=HX.out _ HBc.out)
   | (go_at_call 38;refine (HrCs.out _ (belows HB1.out (show Below w1.heap.size w1 _ from (by first|exact HBc.out|exact Below.drew HBc.out)) HB1.out.size)).mono ?_;rintro e X ⟨vr,rfl,hown,hb⟩;have hbc:=belows (show Below w1.heap.size w1 _ from (by first|exact HBc.out|exact Below.drew HBc.out)) hb (by first|exact HBc.out.size|exact (Below.drew HBc.out).size);have HvR:=hid (Kit.isS_of_owns hown HLn.out);have HvC2:=hid (HvC.out.below hb (Nat.le_refl _));clear hown;clear HBc hb y1 y2 y3 y5;have HBc:=hid hbc;clear hbc;obtain ⟨y1,y2,y3,y5⟩:=HX.out _ HBc.out)
   | (go_at_call 37;refine (equalSn_any _ _ _ _ HvC2.out HvR.out).mono ?_;rintro e X ⟨rfl,hb⟩;have hbc:=belows (show Below w1.heap.size w1 _ from (by first|exact HBc.out|exact Below.drew HBc.out)) hb (by first|exact HBc.out.size|exact (Below.drew HBc.out).size);clear HBc hb y1 y2 y3 y5;have HBc:=hid hbc;clear hbc;obtain ⟨y1,y2,y3,y5⟩:=HX.out _ HBc.out)
   | (go_at_call 25;refine (HHo.out _ (belows HB1.out (show Below w1.heap.size w1 _ from (by first|exact HBc.out|exact Below.drew HBc.out)) HB1.out.size)).mono ?_;rintro e X ⟨Bs,rv,rfl,hr,hbx,hb⟩;have hbc:=belows (show Below w1.heap.size w1 _ from (by first|exact HBc.out|exact Below.drew HBc.out)) hb (by first|exact HBc.out.size|exact (Below.drew HBc.out).size);have HhP:=hid (And.intro hr hbx);clear hr hbx;clear HBc hb y1 y2 y3 y5;have HBc:=hid hbc;clear hbc;obtain ⟨y1,y2,y3,y5⟩:=HX.out _ HBc.out)
   | (go_at_call 39;refine (HrHo.out _ (belows HB1.out (show Below w1.heap.size w1 _ from (by first|exact HBc.out|exact Below.drew HBc.out)) HB1.out.size)).mono ?_;rintro e X ⟨vh,rfl,hown,hb⟩;have hbc:=belows (show Below w1.heap.size w1 _ from (by first|exact HBc.out|exact Below.drew HBc.out)) hb (by first|exact HBc.out.size|exact (Below.drew HBc.out).size);have HvH:=hid hown;have HhP2:=hid (And.intro (HhP.out.1.below hb) (HhP.out.2.below hb));clear hown;clear HBc hb y1 y2 y3 y5;have HBc:=hid hbc;clear hbc;obtain ⟨y1,y2,y3,y5⟩:=HX.out _ HBc.out)
   | (go_at_call 24;refine (toldS HhP2.out.1 HhP2.out.2 HvH.out HLh.out).mono ?_;rintro e X ⟨rfl,hb⟩;have hbc:=belows (show Below w1.heap.size w1 _ from (by first|exact HBc.out|exact Below.drew HBc.out)) hb (by first|exact HBc.out.size|exact (Below.drew HBc.out).size);clear HBc hb y1 y2 y3 y5;have HBc:=hid hbc;clear hbc;obtain ⟨y1,y2,y3,y5⟩:=HX.out _ HBc.out))
 go_wp2
 go_ret
 exact ⟨rfl,belows HB1.out (by first|exact HBc.out|exact Below.drew HBc.out) HB1.out.size⟩
end
end Go.Proofs.Ytfphiomhlhpphaa
namespace Go.Proofs.Ytfphiomhlhpphaa
open Go Go.RowKit
open Pf (Site Sn ix addk alt keys O)
set_option maxRecDepth 100000
set_option maxHeartbeats 2000000
theorem PP.down {w : World} {base base' pb : Nat} {p : IV} (h : PP w base pb p) (hb : base' ≤ base) : PP w base' pb p:=⟨h.box,{ h.has with low:=fun k hk=>Nat.le_trans hb (h.has.low k hk) },Nat.le_trans hb h.low⟩
structure Beside (w : World) (p : IV) (r : PR) (B : Nat → Prop) : Prop where
 lt : ∀ b,B b → b < w.heap.size
 np : ∀ b,B b → ¬ p.foot b
 nr : ∀ b,B b → ¬ r.foot b
def Kp (B : Nat → Prop) (w w' : World) : Prop:=∀ b,B b → w'.heap[b]? = w.heap[b]?
def D2 (w0 w : World) (pb : Nat) (p : IV) (n : Nat) (t : Pf.St) (r : PR) (m : Nat) (u : Pf.St) (B : Nat → Prop) : Prop:=Duo w0 w pb p n t r m u ∧ Beside w p r B
structure Cp (w : World) (base : Nat) (p : IV) (cb : Nat) (c : IV) (n : Nat) (t : Pf.St) (r : PR) (B : Nat → Prop) : Prop where
 pp : PP w base cb c
 ok : OkP c n
 st : c.st = t
 pc : ∀ i,p.foot i → ¬ c.foot i
 pb : ¬ p.foot cb
 cr : ∀ i,c.foot i → ¬ r.foot i
 rb : ¬ r.foot cb
 cB : ∀ b,B b → ¬ c.foot b
section
variable {w0 w w' w2 : World} {pb n m cb : Nat} {p c : IV} {t u : Pf.St} {r : PR} {B B' : Nat → Prop}
theorem Kp.trans (h : Kp B w w') (k : Kp B w' w2) : Kp B w w2:=fun b hb=>(k b hb).trans (h b hb)
theorem Kp.bx {b : Nat} {cs : Array Value} {T : TypeId} (h : Kp B w w') (hb : B b) (hx : BX w b cs T) : BX w' b cs T:=(h b hb).trans hx
theorem Kp.less (h : Kp B' w w') (hs : ∀ b,B b → B' b) : Kp B w w':=fun b hb=>h b (hs b hb)
theorem D2.less (h : D2 w0 w pb p n t r m u B') (hs : ∀ b,B b → B' b) : D2 w0 w pb p n t r m u B:=⟨h.1,fun b hb=>h.2.lt b (hs b hb),fun b hb=>h.2.np b (hs b hb),fun b hb=>h.2.nr b (hs b hb)⟩
theorem D2.below (h : D2 w0 w pb p n t r m u B) (hb : Below w.heap.size w w') : D2 w0 w' pb p n t r m u B ∧ Kp B w w' :=
 ⟨⟨h.1.below hb,fun b hB=>Nat.lt_of_lt_of_le (h.2.lt b hB) hb.size,h.2.np,h.2.nr⟩,fun b hB=>hb.block b (h.2.lt b hB)⟩
theorem D2.more (h : D2 w0 w pb p n t r m u B) (hb : Below w.heap.size w w') {b : Nat} (h1 : w.heap.size ≤ b) (h2 : b < w'.heap.size) : D2 w0 w' pb p n t r m u (fun i=>B i ∨ i = b) :=
 ⟨h.1.below hb,fun i e=>e.elim (fun e=>Nat.lt_of_lt_of_le (h.2.lt i e) hb.size) (fun e=>e ▸ h2),fun i e hf=>e.elim (fun e=>h.2.np i e hf) (fun e=>by have:=h.1.pp.has.lt i hf;omega),fun i e hf=>e.elim (fun e=>h.2.nr i e hf) (fun e=>by have:=(h.1.rr.lows i hf).2;omega)⟩
theorem D2.stepP (h : D2 w0 w pb p n t r m u B) {n' : Nat} {t' : Pf.St} (hs : Step w w' w0.heap.size pb p n' t') : ∃ p',D2 w0 w' pb p' n' t' r m u B ∧ Kp B w w':=by
 obtain ⟨p',a1,a2,a3,a4,a5⟩:=hs
 exact ⟨p',⟨⟨a1,a2,a3,h.1.rr.chg a4 (fun k hk e=>h.1.ff k e hk),h.1.gd,h.1.rt,fun i h1 h2=>(a5 i h1).elim (fun e=>h.1.ff i e h2) (fun e=>by have:=(h.1.rr.lows i h2).2;omega),h.1.rp,h.1.bl.trans (a4.to_below (B:=w0.heap.size) (fun k e=>h.1.pp.has.low k e) h.1.bl.size)⟩,
  fun b hb=>Nat.lt_of_lt_of_le (h.2.lt b hb) a4.size,fun b hb hf=>(a5 b hf).elim (h.2.np b hb) (fun e=>by have:=h.2.lt b hb;omega),h.2.nr⟩,fun b hb=>a4.block b (h.2.lt b hb) (h.2.np b hb)⟩
theorem D2.stepR (h : D2 w0 w pb p n t r m u B) {m' : Nat} {u' : Pf.St} (hs : StepR w w' w0.heap.size r m' u') : ∃ r',r'.pb = r.pb ∧ D2 w0 w' pb p n t r' m' u' B ∧ Kp B w w':=by
 obtain ⟨r',a1,a2,a3,a4,a5,a6⟩:=hs
 exact ⟨r',a4,⟨⟨h.1.pp.chg a5 h.1.rp (fun k hk e=>h.1.ff k hk e),h.1.ok,h.1.st,a1,a2,a3,fun i h1 h2=>(a6 i h2).elim (fun e=>h.1.ff i h1 e) (fun e=>by have:=h.1.pp.has.lt i h1;omega),fun h2=>(a6 _ h2).elim h.1.rp (fun e=>by have:=h.1.pp.box.sz;omega),h.1.bl.trans (a5.to_below (B:=w0.heap.size) (fun k e=>(h.1.rr.lows k e).1) h.1.bl.size)⟩,
  fun b hb=>Nat.lt_of_lt_of_le (h.2.lt b hb) a5.size,h.2.np,fun b hb hf=>(a6 b hf).elim (h.2.nr b hb) (fun e=>by have:=h.2.lt b hb;omega)⟩,fun b hb=>a5.block b (h.2.lt b hb) (h.2.nr b hb)⟩
theorem D2.stepC (h : D2 w0 w pb p n t r m u B) {k : Nat} {s : Pf.St} (hc : Cp w w0.heap.size p cb c k s r B) {n' : Nat} {t' : Pf.St} (hs : Step w w' w0.heap.size pb p n' t') : ∃ p',(D2 w0 w' pb p' n' t' r m u B ∧ Cp w' w0.heap.size p' cb c k s r B) ∧ Kp B w w':=by
 obtain ⟨p',a1,a2,a3,a4,a5⟩:=hs
 refine ⟨p',⟨⟨⟨a1,a2,a3,h.1.rr.chg a4 (fun k hk e=>h.1.ff k e hk),h.1.gd,h.1.rt,fun i h1 h2=>(a5 i h1).elim (fun e=>h.1.ff i e h2) (fun e=>by have:=(h.1.rr.lows i h2).2;omega),h.1.rp,h.1.bl.trans (a4.to_below (B:=w0.heap.size) (fun k e=>h.1.pp.has.low k e) h.1.bl.size)⟩,
  fun b hb=>Nat.lt_of_lt_of_le (h.2.lt b hb) a4.size,fun b hb hf=>(a5 b hf).elim (h.2.np b hb) (fun e=>by have:=h.2.lt b hb;omega),h.2.nr⟩,?_⟩,fun b hb=>a4.block b (h.2.lt b hb) (h.2.np b hb)⟩
 exact ⟨hc.pp.chg a4 hc.pb (fun k hk e=>hc.pc k e hk),hc.ok,hc.st,fun i h1 h2=>(a5 i h1).elim (fun e=>hc.pc i e h2) (fun e=>by have:=hc.pp.has.lt i h2;omega),fun h1=>(a5 _ h1).elim hc.pb (fun e=>by have:=hc.pp.box.sz;omega),hc.cr,hc.rb,hc.cB⟩
theorem D2.copy (h : D2 w0 w pb p n t r m u B) {c : IV} {cb : Nat} (hc : PP w' w.heap.size cb c) (ok : OkP c n) (st : c.st = p.st) (hb : Below w.heap.size w w') : D2 w0 w' pb p n t r m u B ∧ Cp w' w0.heap.size p cb c n t r B :=
 ⟨(h.below hb).1,hc.down h.1.bl.size,ok,st.trans h.1.st,fun i h1 h2=>by have:=h.1.pp.has.lt i h1;have:=hc.has.low i h2;omega,fun h1=>by have:=h.1.pp.has.lt _ h1;have:=hc.low;omega,fun i h1 h2=>by have:=(h.1.rr.lows i h2).2;have:=hc.has.low i h1;omega,fun h1=>by have:=(h.1.rr.lows _ h1).2;have:=hc.low;omega,fun b hB h1=>by have:=h.2.lt b hB;have:=hc.has.low b h1;omega⟩
theorem Cp.swap (hd : D2 w0 w pb p n t r m u B) {k : Nat} {s : Pf.St} (hc : Cp w w0.heap.size p cb c k s r B) : D2 w0 w cb c k s r m u B :=
 ⟨⟨hc.pp,hc.ok,hc.st,hd.1.rr,hd.1.gd,hd.1.rt,hc.cr,hc.rb,hd.1.bl⟩,hd.2.lt,hc.cB,hd.2.nr⟩
theorem Cp.below {k : Nat} {s : Pf.St} (hc : Cp w w0.heap.size p cb c k s r B) (hb : Below w.heap.size w w') : Cp w' w0.heap.size p cb c k s r B:={ hc with pp:=hc.pp.below hb }
theorem Good.mono {n : Nat} (g : Good r n) {m : Nat} (hm : n ≤ m) : Good r m:=⟨g.ne,g.nj,g.nc,g.be,g.bj,g.bc,Nat.le_trans g.le hm,Nat.le_trans g.lj hm,Nat.le_trans g.lc hm⟩
theorem D2.mono (h : D2 w0 w pb p n t r m u B) {n' m' : Nat} (hn : n ≤ n') (hm : m ≤ m') : D2 w0 w pb p n' t r m' u B:=⟨{ h.1 with ok:=h.1.ok.mono hn,gd:=h.1.gd.mono hm },h.2⟩
def PPost (w0 w : World) (pb n : Nat) (t : Pf.St) (r : PR) (m : Nat) (u : Pf.St) (B : Nat → Prop) (v : Value) (e : Ending) (w' : World) : Prop:=e = .returned v ∧ ∃ p',D2 w0 w' pb p' n t r m u B ∧ Kp B w w'
def RPost (w0 w : World) (pb : Nat) (p : IV) (n : Nat) (t : Pf.St) (r : PR) (m : Nat) (u : Pf.St) (B : Nat → Prop) (v : Value) (e : Ending) (w' : World) : Prop:=e = .returned v ∧ ∃ r',r'.pb = r.pb ∧ D2 w0 w' pb p n t r' m u B ∧ Kp B w w'
theorem D2.enterP (h : D2 w0 w pb p n t r m u B) (hn : n < 2932031007340) {f : Int} (hf : I8 f) : Calls Try.prog 12 #[.pointer (some ⟨pb,0,none⟩),.int .i64 f] w (PPost w0 w pb (n + 1) (t.enter f) r m u B (.int .i64 (Pf.more (t.en f) 1))):=by
 refine (enterS h.1.pp h.1.ok (by omega) hf).mono ?_
 rw [h.1.st]
 rintro e w' ⟨rfl,hs⟩
 exact ⟨rfl,h.stepP hs⟩
theorem D2.backP (h : D2 w0 w pb p n t r m u B) (hn : n < 2932031007340) {s : Site} (hs : TS.ok s) : Calls Try.prog 13 #[.pointer (some ⟨pb,0,none⟩),.agg #[.int .i64 s.1,.int .i64 s.2]] w (PPost w0 w pb (n + 1) (t.back s) r m u B (.int .i64 (Pf.more (t.ju s) 1))):=by
 refine (backS h.1.pp h.1.ok (by omega) hs).mono ?_
 rw [h.1.st]
 rintro e w' ⟨rfl,hs⟩
 exact ⟨rfl,h.stepP hs⟩
theorem D2.callP (h : D2 w0 w pb p n t r m u B) (hn : n < 2932031007340) {s : Site} (hs : TS.ok s) {k : Int} (hk : I8 k) : Calls Try.prog 14 #[.pointer (some ⟨pb,0,none⟩),.agg #[.int .i64 s.1,.int .i64 s.2],.int .i64 k] w (PPost w0 w pb (n + 1) (t.call s k 1) r m u B (.int .i64 (Pf.kind (Pf.cnt (t.ca s) k 1)))):=by
 refine (callS h.1.pp h.1.bl.size h.1.ok (by omega) hs hk).mono ?_
 rw [h.1.st]
 rintro e w' ⟨rfl,hs⟩
 exact ⟨rfl,h.stepP hs⟩
theorem D2.forgetP (h : D2 w0 w pb p n t r m u B) (hn : n < 2932031007340) (f : Int) : Calls Try.prog 22 #[.pointer (some ⟨pb,0,none⟩),.int .i64 f] w (PPost w0 w pb n (t.forget f) r m u B (.tuple #[])):=by
 refine (forget_any h.1.pp h.1.bl.size h.1.ok (by omega) f).mono ?_
 rw [h.1.st]
 rintro e w' ⟨rfl,hs⟩
 exact ⟨rfl,h.stepP hs⟩
theorem D2.addP (h : D2 w0 w pb p n t r m u B) (hn : n < 2932031007340) : Calls Try.prog 20 #[.pointer (some ⟨pb,0,none⟩),.pointer (some ⟨pb,0,none⟩)] w (PPost w0 w pb n (t.add t) r m u B (.int .i64 0)):=by
 refine (addself_any h.1.pp h.1.bl.size h.1.ok (by omega)).mono ?_
 rw [h.1.st]
 rintro e w' ⟨rfl,hs⟩
 exact ⟨rfl,h.stepP hs⟩
theorem D2.enterR (h : D2 w0 w pb p n t r m u B) (hm : m < 2932031007340) (f : Int) : Calls Try.prog 28 #[.pointer (some ⟨r.pb,0,none⟩),.int .i64 f] w (RPost w0 w pb p n t r (m + 1) (u.enter f) B (.int .i64 (Pf.more (u.en f) 1))):=by
 refine (Go.Proofs.Ytfphiomhlhpphaa.enterR h.1.rr h.1.gd hm f).mono ?_
 rw [h.1.rt]
 rintro e w' ⟨rfl,hs⟩
 exact ⟨rfl,h.stepR hs⟩
theorem D2.backR (h : D2 w0 w pb p n t r m u B) (hm : m < 2932031007340) (s : Site) : Calls Try.prog 29 #[.pointer (some ⟨r.pb,0,none⟩),.agg #[.int .i64 s.1,.int .i64 s.2]] w (RPost w0 w pb p n t r (m + 1) (u.back s) B (.int .i64 (Pf.more (u.ju s) 1))):=by
 refine (Go.Proofs.Ytfphiomhlhpphaa.backR h.1.rr h.1.gd hm s).mono ?_
 rw [h.1.rt]
 rintro e w' ⟨rfl,hs⟩
 exact ⟨rfl,h.stepR hs⟩
theorem D2.callR (h : D2 w0 w pb p n t r m u B) (hm : m < 2932031007340) (s : Site) (k : Int) : Calls Try.prog 30 #[.pointer (some ⟨r.pb,0,none⟩),.agg #[.int .i64 s.1,.int .i64 s.2],.int .i64 k] w (RPost w0 w pb p n t r (m + 1) (u.call s k 1) B (.int .i64 (Pf.kind (Pf.cnt (u.ca s) k 1)))):=by
 refine (Go.Proofs.Ytfphiomhlhpphaa.callR h.1.rr h.1.gd hm s k).mono ?_
 rw [h.1.rt]
 rintro e w' ⟨rfl,hs⟩
 exact ⟨rfl,h.stepR hs⟩
theorem D2.forgetR (h : D2 w0 w pb p n t r m u B) (hm : m < 2932031007340) (f : Int) : Calls Try.prog 31 #[.pointer (some ⟨r.pb,0,none⟩),.int .i64 f] w (RPost w0 w pb p n t r m (u.forget f) B (.tuple #[])):=by
 refine (Go.Proofs.Ytfphiomhlhpphaa.forgetR h.1.rr h.1.gd hm f).mono ?_
 rw [h.1.rt]
 rintro e w' ⟨rfl,hs⟩
 exact ⟨rfl,h.stepR hs⟩
theorem D2.addR (h : D2 w0 w pb p n t r m u B) (hm : m < 2932031007340) : Calls Try.prog 32 #[.pointer (some ⟨r.pb,0,none⟩),.pointer (some ⟨r.pb,0,none⟩)] w (RPost w0 w pb p n t r m (u.add u) B (.tuple #[])):=by
 refine (Go.Proofs.Ytfphiomhlhpphaa.addR h.1.rr h.1.gd hm).mono ?_
 rw [h.1.rt]
 rintro e w' ⟨rfl,hs⟩
 exact ⟨rfl,h.stepR hs⟩
end
end Go.Proofs.Ytfphiomhlhpphaa
namespace Go.Proofs.Ytfphiomhlhpphaa
open Go Go.RowKit
open Pf (Site Sn ix addk alt keys O)
set_option maxRecDepth 100000
set_option maxHeartbeats 4000000
def stepT (t : Pf.St) (o : O) : Pf.St:=if o.d = 0 then t.enter o.f else if o.d = 1 then t.back o.x else if o.d = 2 then t.call o.x o.k 1 else if o.d = 3 then t.forget o.f else if o.d = 4 then t.add t else t
def StepD (w0 w : World) (n : Nat) (t : Pf.St) (o : O) (r : PR) (B : Nat → Prop) (e : Ending) (w' : World) : Prop :=
 ∃ pb' p' r',e = .returned (.tuple #[.pointer (some ⟨pb',0,none⟩),.bool true]) ∧ D2 w0 w' pb' p' (n + 1) (stepT t o) r' (n + 1) (stepT t o) B ∧ r'.pb = r.pb ∧ Kp B w w'
section
variable {w0 w : World} {pb n : Nat} {p : IV} {t : Pf.St} {r : PR} {B : Nat → Prop}
theorem C2.enter {w : World} {n m k cb : Nat} {c : IV} {u s : Pf.St} (h : D2 w0 w pb p n t r m u B ∧ Cp w w0.heap.size p cb c k s r B) (hn : n < 5000000000000) {f : Int} (hf : I8 f) : Calls Try.prog 12 #[.pointer (some ⟨pb,0,none⟩),.int .i64 f] w fun e w' =>
  (∃ z : Int,e = .returned (.int .i64 z)) ∧ ∃ p',(D2 w0 w' pb p' (n + 1) (t.enter f) r m u B ∧ Cp w' w0.heap.size p' cb c k s r B) ∧ Kp B w w':=by
 refine (enterS h.1.1.pp h.1.1.ok (by omega) hf).mono ?_
 rw [h.1.1.st]
 rintro e w' ⟨rfl,hs⟩
 exact ⟨⟨_,rfl⟩,h.1.stepC h.2 hs⟩
theorem C2.back {w : World} {n m k cb : Nat} {c : IV} {u s : Pf.St} (h : D2 w0 w pb p n t r m u B ∧ Cp w w0.heap.size p cb c k s r B) (hn : n < 5000000000000) {x : Site} (hx : TS.ok x) : Calls Try.prog 13 #[.pointer (some ⟨pb,0,none⟩),.agg #[.int .i64 x.1,.int .i64 x.2]] w fun e w' =>
  (∃ z : Int,e = .returned (.int .i64 z)) ∧ ∃ p',(D2 w0 w' pb p' (n + 1) (t.back x) r m u B ∧ Cp w' w0.heap.size p' cb c k s r B) ∧ Kp B w w':=by
 refine (backS h.1.1.pp h.1.1.ok (by omega) hx).mono ?_
 rw [h.1.1.st]
 rintro e w' ⟨rfl,hs⟩
 exact ⟨⟨_,rfl⟩,h.1.stepC h.2 hs⟩
theorem C2.call {w : World} {n m k cb : Nat} {c : IV} {u s : Pf.St} (h : D2 w0 w pb p n t r m u B ∧ Cp w w0.heap.size p cb c k s r B) (hn : n < 5000000000000) {x : Site} (hx : TS.ok x) {q : Int} (hq : I8 q) : Calls Try.prog 14 #[.pointer (some ⟨pb,0,none⟩),.agg #[.int .i64 x.1,.int .i64 x.2],.int .i64 q] w fun e w' =>
  (∃ z : Int,e = .returned (.int .i64 z)) ∧ ∃ p',(D2 w0 w' pb p' (n + 1) (t.call x q 1) r m u B ∧ Cp w' w0.heap.size p' cb c k s r B) ∧ Kp B w w':=by
 refine (callS h.1.1.pp h.1.1.bl.size h.1.1.ok (by omega) hx hq).mono ?_
 rw [h.1.1.st]
 rintro e w' ⟨rfl,hs⟩
 exact ⟨⟨_,rfl⟩,h.1.stepC h.2 hs⟩
theorem StepD.mk {w1 w' : World} {b pb' n1 n2 : Nat} {p' : IV} {r' : PR} {o : O} {t' t2 : Pf.St} (hb1 : Below w.heap.size w w1) (hB : ∀ i,B i → i < w.heap.size) (ht : stepT t o = t') (ht2 : stepT t o = t2) (h : D2 w0 w' pb' p' n1 t' r' n2 t2 (fun i=>B i ∨ i = b)) (h1 : n1 ≤ n + 1) (h2 : n2 ≤ n + 1) (hp : r'.pb = r.pb) (hk : Kp (fun i=>B i ∨ i = b) w1 w') :
  StepD w0 w n t o r B (.returned (.tuple #[.pointer (some ⟨pb',0,none⟩),.bool true])) w':=by
 subst ht
 subst ht2
 exact ⟨pb',p',r',rfl,(h.mono h1 h2).less (fun i e=>.inl e),hp,fun i hi=>(hk i (.inl hi)).trans (hb1.block i (hB i hi))⟩
theorem stepE_any (h : D2 w0 w pb p n t r n t B) (hn : n < 2932031007330) {f x1 x2 q ls : Int} (hg : GoodO ⟨0,f,(x1,x2),q,ls⟩) :
  Calls Try.prog 10 #[.pointer (some ⟨pb,0,none⟩),.pointer (some ⟨r.pb,0,none⟩),.agg (oL ⟨0,f,(x1,x2),q,ls⟩).toArray] w (StepD w0 w n t ⟨0,f,(x1,x2),q,ls⟩ r B):=by
 unfold oL
 dsimp only
 obtain ⟨w1,hw1⟩ : ∃ w1,w1 = w.alloc (.cells #[.int .i64 0,.int .i64 f,.int .i64 x1,.int .i64 x2,.int .i64 q,.int .i64 ls] 31):=⟨_,rfl⟩
 have hb1 : Below w.heap.size w w1:=by rw [hw1];exact (Below.refl _ _).alloc (Nat.le_refl _) _
 have hz1 : w.heap.size < w1.heap.size:=by rw [hw1];simp
 have bx : BX w1 w.heap.size #[.int .i64 0,.int .i64 f,.int .i64 x1,.int .i64 x2,.int .i64 q,.int .i64 ls] 31:=by rw [hw1];exact BX.new w _ _
 have hD:=h.more hb1 (Nat.le_refl _) hz1
 have HD:=hid hD
 have HB:=hid h.2.lt
 have HB1:=hid hb1
 have HW1:=hid hw1
 have HN:=hid hn
 have HG:=hid hg
 have HX:=hid (fun X (hk : Kp (fun i=>B i ∨ i = w.heap.size) w1 X)=>(show X.cell? ⟨w.heap.size,1,none⟩ = some (.int .i64 f) ∧ X.cell? ⟨w.heap.size,2,none⟩ = some (.int .i64 x1) ∧ X.cell? ⟨w.heap.size,3,none⟩ = some (.int .i64 x2) ∧ X.cell? ⟨w.heap.size,4,none⟩ = some (.int .i64 q) from ⟨(hk.bx (.inr rfl) bx).cell 1,(hk.bx (.inr rfl) bx).cell 2,(hk.bx (.inr rfl) bx).cell 3,(hk.bx (.inr rfl) bx).cell 4⟩))
 have HK : Hid (Kp (fun i=>B i ∨ i = w.heap.size) w1 w1):=fun _ _=>rfl
 obtain ⟨y1,y2,y3,y4⟩:=HX.out w1 HK.out
 have y0 : w1.cell? ⟨w.heap.size,0,none⟩ = some (.int .i64 0):=bx.cell 0
 have Hp:=hid (fun W (hd : D2 w0 W pb p n t r n t (fun i=>B i ∨ i = w.heap.size))=>hd.enterP (by have:=hn;omega) hg.f)
 have Hr:=hid (fun W p' (hd : D2 w0 W pb p' (n + 1) (t.enter f) r n t (fun i=>B i ∨ i = w.heap.size))=>hd.enterR (by have:=hn;omega) f)
 unfold PPost at Hp
 unfold RPost at Hr
 try dsimp only at Hp Hr
 clear h hn hg hw1 hb1 hz1 bx hD
 go_enter Try.func10,Try.ntmps10
 go_upto_region 1 with fail
 rw [← HW1.out]
 go_upto_region 3 with fail
 go_region_held3 (fun X=>X.cell? ⟨w.heap.size,1,none⟩ = some (.int .i64 f) ∧ X.cell? ⟨w.heap.size,2,none⟩ = some (.int .i64 x1) ∧ X.cell? ⟨w.heap.size,3,none⟩ = some (.int .i64 x2) ∧ X.cell? ⟨w.heap.size,4,none⟩ = some (.int .i64 q))
  (first|exact ⟨y1,y2,y3,y4⟩|go_keep)
  (first
   | (go_at_call 12;refine (Hp.out _ (by first|exact HD.out|exact (HD.out.below (Below.drew (Below.refl _ _))).1)).mono ?_;rintro e X ⟨rfl,p2,hd,hk⟩;have HD2:=hid hd;clear hd;have hkk:=HK.out.trans hk;clear hk y1 y2 y3 y4 HK;(try clear y0);have HK:=hid hkk;clear hkk;obtain ⟨y1,y2,y3,y4⟩:=HX.out _ HK.out)
   | (go_at_call 28;refine (Hr.out _ _ HD2.out).mono ?_;rintro e X ⟨rfl,r2,hrp,hd,hk⟩;have HD3:=hid hd;have HRp:=hid hrp;clear hd hrp;have hkk:=HK.out.trans hk;clear hk y1 y2 y3 y4 HK;(try clear y0);have HK:=hid hkk;clear hkk;obtain ⟨y1,y2,y3,y4⟩:=HX.out _ HK.out))
 go_wp2
 go_ret2
 exact StepD.mk HB1.out HB.out (by unfold stepT;rfl) (by unfold stepT;rfl) HD3.out (Nat.le_refl _) (Nat.le_refl _) HRp.out HK.out
theorem stepB_any (h : D2 w0 w pb p n t r n t B) (hn : n < 2932031007330) {f x1 x2 q ls : Int} (hg : GoodO ⟨1,f,(x1,x2),q,ls⟩) :
  Calls Try.prog 10 #[.pointer (some ⟨pb,0,none⟩),.pointer (some ⟨r.pb,0,none⟩),.agg (oL ⟨1,f,(x1,x2),q,ls⟩).toArray] w (StepD w0 w n t ⟨1,f,(x1,x2),q,ls⟩ r B):=by
 unfold oL
 dsimp only
 obtain ⟨w1,hw1⟩ : ∃ w1,w1 = w.alloc (.cells #[.int .i64 1,.int .i64 f,.int .i64 x1,.int .i64 x2,.int .i64 q,.int .i64 ls] 31):=⟨_,rfl⟩
 have hb1 : Below w.heap.size w w1:=by rw [hw1];exact (Below.refl _ _).alloc (Nat.le_refl _) _
 have hz1 : w.heap.size < w1.heap.size:=by rw [hw1];simp
 have bx : BX w1 w.heap.size #[.int .i64 1,.int .i64 f,.int .i64 x1,.int .i64 x2,.int .i64 q,.int .i64 ls] 31:=by rw [hw1];exact BX.new w _ _
 have hD:=h.more hb1 (Nat.le_refl _) hz1
 have HD:=hid hD
 have HB:=hid h.2.lt
 have HB1:=hid hb1
 have HW1:=hid hw1
 have HN:=hid hn
 have HG:=hid hg
 have HX:=hid (fun X (hk : Kp (fun i=>B i ∨ i = w.heap.size) w1 X)=>(show X.cell? ⟨w.heap.size,1,none⟩ = some (.int .i64 f) ∧ X.cell? ⟨w.heap.size,2,none⟩ = some (.int .i64 x1) ∧ X.cell? ⟨w.heap.size,3,none⟩ = some (.int .i64 x2) ∧ X.cell? ⟨w.heap.size,4,none⟩ = some (.int .i64 q) from ⟨(hk.bx (.inr rfl) bx).cell 1,(hk.bx (.inr rfl) bx).cell 2,(hk.bx (.inr rfl) bx).cell 3,(hk.bx (.inr rfl) bx).cell 4⟩))
 have HK : Hid (Kp (fun i=>B i ∨ i = w.heap.size) w1 w1):=fun _ _=>rfl
 obtain ⟨y1,y2,y3,y4⟩:=HX.out w1 HK.out
 have y0 : w1.cell? ⟨w.heap.size,0,none⟩ = some (.int .i64 1):=bx.cell 0
 have Hp:=hid (fun W (hd : D2 w0 W pb p n t r n t (fun i=>B i ∨ i = w.heap.size))=>hd.backP (by have:=hn;omega) hg.x)
 have Hr:=hid (fun W p' (hd : D2 w0 W pb p' (n + 1) (t.back (x1,x2)) r n t (fun i=>B i ∨ i = w.heap.size))=>hd.backR (by have:=hn;omega) (x1,x2))
 unfold PPost at Hp
 unfold RPost at Hr
 try dsimp only at Hp Hr
 clear h hn hg hw1 hb1 hz1 bx hD
 go_enter Try.func10,Try.ntmps10
 go_upto_region 1 with fail
 rw [← HW1.out]
 go_upto_region 5 with fail
 go_region_held3 (fun X=>X.cell? ⟨w.heap.size,1,none⟩ = some (.int .i64 f) ∧ X.cell? ⟨w.heap.size,2,none⟩ = some (.int .i64 x1) ∧ X.cell? ⟨w.heap.size,3,none⟩ = some (.int .i64 x2) ∧ X.cell? ⟨w.heap.size,4,none⟩ = some (.int .i64 q))
  (first|exact ⟨y1,y2,y3,y4⟩|go_keep)
  (first
   | (go_at_call 13;refine (Hp.out _ (by first|exact HD.out|exact (HD.out.below (Below.drew (Below.refl _ _))).1)).mono ?_;rintro e X ⟨rfl,p2,hd,hk⟩;have HD2:=hid hd;clear hd;have hkk:=HK.out.trans hk;clear hk y1 y2 y3 y4 HK;(try clear y0);have HK:=hid hkk;clear hkk;obtain ⟨y1,y2,y3,y4⟩:=HX.out _ HK.out)
   | (go_at_call 29;refine (Hr.out _ _ HD2.out).mono ?_;rintro e X ⟨rfl,r2,hrp,hd,hk⟩;have HD3:=hid hd;have HRp:=hid hrp;clear hd hrp;have hkk:=HK.out.trans hk;clear hk y1 y2 y3 y4 HK;(try clear y0);have HK:=hid hkk;clear hkk;obtain ⟨y1,y2,y3,y4⟩:=HX.out _ HK.out))
 go_wp2
 go_ret2
 exact StepD.mk HB1.out HB.out (by unfold stepT;rfl) (by unfold stepT;rfl) HD3.out (Nat.le_refl _) (Nat.le_refl _) HRp.out HK.out
theorem stepC_any (h : D2 w0 w pb p n t r n t B) (hn : n < 2932031007330) {f x1 x2 q ls : Int} (hg : GoodO ⟨2,f,(x1,x2),q,ls⟩) :
  Calls Try.prog 10 #[.pointer (some ⟨pb,0,none⟩),.pointer (some ⟨r.pb,0,none⟩),.agg (oL ⟨2,f,(x1,x2),q,ls⟩).toArray] w (StepD w0 w n t ⟨2,f,(x1,x2),q,ls⟩ r B):=by
 unfold oL
 dsimp only
 obtain ⟨w1,hw1⟩ : ∃ w1,w1 = w.alloc (.cells #[.int .i64 2,.int .i64 f,.int .i64 x1,.int .i64 x2,.int .i64 q,.int .i64 ls] 31):=⟨_,rfl⟩
 have hb1 : Below w.heap.size w w1:=by rw [hw1];exact (Below.refl _ _).alloc (Nat.le_refl _) _
 have hz1 : w.heap.size < w1.heap.size:=by rw [hw1];simp
 have bx : BX w1 w.heap.size #[.int .i64 2,.int .i64 f,.int .i64 x1,.int .i64 x2,.int .i64 q,.int .i64 ls] 31:=by rw [hw1];exact BX.new w _ _
 have hD:=h.more hb1 (Nat.le_refl _) hz1
 have HD:=hid hD
 have HB:=hid h.2.lt
 have HB1:=hid hb1
 have HW1:=hid hw1
 have HN:=hid hn
 have HG:=hid hg
 have HX:=hid (fun X (hk : Kp (fun i=>B i ∨ i = w.heap.size) w1 X)=>(show X.cell? ⟨w.heap.size,1,none⟩ = some (.int .i64 f) ∧ X.cell? ⟨w.heap.size,2,none⟩ = some (.int .i64 x1) ∧ X.cell? ⟨w.heap.size,3,none⟩ = some (.int .i64 x2) ∧ X.cell? ⟨w.heap.size,4,none⟩ = some (.int .i64 q) from ⟨(hk.bx (.inr rfl) bx).cell 1,(hk.bx (.inr rfl) bx).cell 2,(hk.bx (.inr rfl) bx).cell 3,(hk.bx (.inr rfl) bx).cell 4⟩))
 have HK : Hid (Kp (fun i=>B i ∨ i = w.heap.size) w1 w1):=fun _ _=>rfl
 obtain ⟨y1,y2,y3,y4⟩:=HX.out w1 HK.out
 have y0 : w1.cell? ⟨w.heap.size,0,none⟩ = some (.int .i64 2):=bx.cell 0
 have Hp:=hid (fun W (hd : D2 w0 W pb p n t r n t (fun i=>B i ∨ i = w.heap.size))=>hd.callP (by have:=hn;omega) hg.x hg.k)
 have Hr:=hid (fun W p' (hd : D2 w0 W pb p' (n + 1) (t.call (x1,x2) q 1) r n t (fun i=>B i ∨ i = w.heap.size))=>hd.callR (by have:=hn;omega) (x1,x2) q)
 unfold PPost at Hp
 unfold RPost at Hr
 try dsimp only at Hp Hr
 clear h hn hg hw1 hb1 hz1 bx hD
 go_enter Try.func10,Try.ntmps10
 go_upto_region 1 with fail
 rw [← HW1.out]
 go_upto_region 7 with fail
 go_region_held3 (fun X=>X.cell? ⟨w.heap.size,1,none⟩ = some (.int .i64 f) ∧ X.cell? ⟨w.heap.size,2,none⟩ = some (.int .i64 x1) ∧ X.cell? ⟨w.heap.size,3,none⟩ = some (.int .i64 x2) ∧ X.cell? ⟨w.heap.size,4,none⟩ = some (.int .i64 q))
  (first|exact ⟨y1,y2,y3,y4⟩|go_keep)
  (first
   | (go_at_call 14;refine (Hp.out _ (by first|exact HD.out|exact (HD.out.below (Below.drew (Below.refl _ _))).1)).mono ?_;rintro e X ⟨rfl,p2,hd,hk⟩;have HD2:=hid hd;clear hd;have hkk:=HK.out.trans hk;clear hk y1 y2 y3 y4 HK;(try clear y0);have HK:=hid hkk;clear hkk;obtain ⟨y1,y2,y3,y4⟩:=HX.out _ HK.out)
   | (go_at_call 30;refine (Hr.out _ _ HD2.out).mono ?_;rintro e X ⟨rfl,r2,hrp,hd,hk⟩;have HD3:=hid hd;have HRp:=hid hrp;clear hd hrp;have hkk:=HK.out.trans hk;clear hk y1 y2 y3 y4 HK;(try clear y0);have HK:=hid hkk;clear hkk;obtain ⟨y1,y2,y3,y4⟩:=HX.out _ HK.out))
 go_wp2
 go_ret2
 exact StepD.mk HB1.out HB.out (by unfold stepT;rfl) (by unfold stepT;rfl) HD3.out (Nat.le_refl _) (Nat.le_refl _) HRp.out HK.out
theorem stepF_any (h : D2 w0 w pb p n t r n t B) (hn : n < 2932031007330) {f x1 x2 q ls : Int} (hg : GoodO ⟨3,f,(x1,x2),q,ls⟩) :
  Calls Try.prog 10 #[.pointer (some ⟨pb,0,none⟩),.pointer (some ⟨r.pb,0,none⟩),.agg (oL ⟨3,f,(x1,x2),q,ls⟩).toArray] w (StepD w0 w n t ⟨3,f,(x1,x2),q,ls⟩ r B):=by
 unfold oL
 dsimp only
 obtain ⟨w1,hw1⟩ : ∃ w1,w1 = w.alloc (.cells #[.int .i64 3,.int .i64 f,.int .i64 x1,.int .i64 x2,.int .i64 q,.int .i64 ls] 31):=⟨_,rfl⟩
 have hb1 : Below w.heap.size w w1:=by rw [hw1];exact (Below.refl _ _).alloc (Nat.le_refl _) _
 have hz1 : w.heap.size < w1.heap.size:=by rw [hw1];simp
 have bx : BX w1 w.heap.size #[.int .i64 3,.int .i64 f,.int .i64 x1,.int .i64 x2,.int .i64 q,.int .i64 ls] 31:=by rw [hw1];exact BX.new w _ _
 have hD:=h.more hb1 (Nat.le_refl _) hz1
 have HD:=hid hD
 have HB:=hid h.2.lt
 have HB1:=hid hb1
 have HW1:=hid hw1
 have HN:=hid hn
 have HG:=hid hg
 have HX:=hid (fun X (hk : Kp (fun i=>B i ∨ i = w.heap.size) w1 X)=>(show X.cell? ⟨w.heap.size,1,none⟩ = some (.int .i64 f) ∧ X.cell? ⟨w.heap.size,2,none⟩ = some (.int .i64 x1) ∧ X.cell? ⟨w.heap.size,3,none⟩ = some (.int .i64 x2) ∧ X.cell? ⟨w.heap.size,4,none⟩ = some (.int .i64 q) from ⟨(hk.bx (.inr rfl) bx).cell 1,(hk.bx (.inr rfl) bx).cell 2,(hk.bx (.inr rfl) bx).cell 3,(hk.bx (.inr rfl) bx).cell 4⟩))
 have HK : Hid (Kp (fun i=>B i ∨ i = w.heap.size) w1 w1):=fun _ _=>rfl
 obtain ⟨y1,y2,y3,y4⟩:=HX.out w1 HK.out
 have y0 : w1.cell? ⟨w.heap.size,0,none⟩ = some (.int .i64 3):=bx.cell 0
 have Hp:=hid (fun W (hd : D2 w0 W pb p n t r n t (fun i=>B i ∨ i = w.heap.size))=>hd.forgetP (by have:=hn;omega) f)
 have Hr:=hid (fun W p' (hd : D2 w0 W pb p' n (t.forget f) r n t (fun i=>B i ∨ i = w.heap.size))=>hd.forgetR (by have:=hn;omega) f)
 unfold PPost at Hp
 unfold RPost at Hr
 try dsimp only at Hp Hr
 clear h hn hg hw1 hb1 hz1 bx hD
 go_enter Try.func10,Try.ntmps10
 go_upto_region 1 with fail
 rw [← HW1.out]
 go_wp2_with (first
  | (go_at_call 22;refine (Hp.out _ (by first|exact HD.out|exact (HD.out.below (Below.drew (Below.refl _ _))).1)).mono ?_;rintro e X ⟨rfl,p2,hd,hk⟩;have HD2:=hid hd;clear hd;have hkk:=HK.out.trans hk;clear hk y1 y2 y3 y4 HK;(try clear y0);have HK:=hid hkk;clear hkk;obtain ⟨y1,y2,y3,y4⟩:=HX.out _ HK.out)
  | (go_at_call 31;refine (Hr.out _ _ HD2.out).mono ?_;rintro e X ⟨rfl,r2,hrp,hd,hk⟩;have HD3:=hid hd;have HRp:=hid hrp;clear hd hrp;have hkk:=HK.out.trans hk;clear hk y1 y2 y3 y4 HK;(try clear y0);have HK:=hid hkk;clear hkk;obtain ⟨y1,y2,y3,y4⟩:=HX.out _ HK.out))
 go_ret2
 exact StepD.mk HB1.out HB.out (by unfold stepT;rfl) (by unfold stepT;rfl) HD3.out (Nat.le_succ _) (Nat.le_succ _) HRp.out HK.out
theorem stepA_any (h : D2 w0 w pb p n t r n t B) (hn : n < 2932031007330) {f x1 x2 q ls : Int} (hg : GoodO ⟨4,f,(x1,x2),q,ls⟩) :
  Calls Try.prog 10 #[.pointer (some ⟨pb,0,none⟩),.pointer (some ⟨r.pb,0,none⟩),.agg (oL ⟨4,f,(x1,x2),q,ls⟩).toArray] w (StepD w0 w n t ⟨4,f,(x1,x2),q,ls⟩ r B):=by
 unfold oL
 dsimp only
 obtain ⟨w1,hw1⟩ : ∃ w1,w1 = w.alloc (.cells #[.int .i64 4,.int .i64 f,.int .i64 x1,.int .i64 x2,.int .i64 q,.int .i64 ls] 31):=⟨_,rfl⟩
 have hb1 : Below w.heap.size w w1:=by rw [hw1];exact (Below.refl _ _).alloc (Nat.le_refl _) _
 have hz1 : w.heap.size < w1.heap.size:=by rw [hw1];simp
 have bx : BX w1 w.heap.size #[.int .i64 4,.int .i64 f,.int .i64 x1,.int .i64 x2,.int .i64 q,.int .i64 ls] 31:=by rw [hw1];exact BX.new w _ _
 have hD:=h.more hb1 (Nat.le_refl _) hz1
 have HD:=hid hD
 have HB:=hid h.2.lt
 have HB1:=hid hb1
 have HW1:=hid hw1
 have HN:=hid hn
 have HG:=hid hg
 have HX:=hid (fun X (hk : Kp (fun i=>B i ∨ i = w.heap.size) w1 X)=>(show X.cell? ⟨w.heap.size,1,none⟩ = some (.int .i64 f) ∧ X.cell? ⟨w.heap.size,2,none⟩ = some (.int .i64 x1) ∧ X.cell? ⟨w.heap.size,3,none⟩ = some (.int .i64 x2) ∧ X.cell? ⟨w.heap.size,4,none⟩ = some (.int .i64 q) from ⟨(hk.bx (.inr rfl) bx).cell 1,(hk.bx (.inr rfl) bx).cell 2,(hk.bx (.inr rfl) bx).cell 3,(hk.bx (.inr rfl) bx).cell 4⟩))
 have HK : Hid (Kp (fun i=>B i ∨ i = w.heap.size) w1 w1):=fun _ _=>rfl
 obtain ⟨y1,y2,y3,y4⟩:=HX.out w1 HK.out
 have y0 : w1.cell? ⟨w.heap.size,0,none⟩ = some (.int .i64 4):=bx.cell 0
 have Hr:=hid (fun W (hd : D2 w0 W pb p n t r n t (fun i=>B i ∨ i = w.heap.size))=>hd.addR (by have:=hn;omega))
 have Hp:=hid (fun W r' (hd : D2 w0 W pb p n t r' n (t.add t) (fun i=>B i ∨ i = w.heap.size))=>hd.addP (by have:=hn;omega))
 unfold PPost at Hp
 unfold RPost at Hr
 try dsimp only at Hp Hr
 clear h hn hg hw1 hb1 hz1 bx hD
 go_enter Try.func10,Try.ntmps10
 go_upto_region 1 with fail
 rw [← HW1.out]
 go_wp2_with (first
  | (go_at_call 32;refine (Hr.out _ (by first|exact HD.out|exact (HD.out.below (Below.drew (Below.refl _ _))).1)).mono ?_;rintro e X ⟨rfl,r2,hrp,hd,hk⟩;have HD3:=hid hd;have HRp:=hid hrp;clear hd hrp;have hkk:=HK.out.trans hk;clear hk y1 y2 y3 y4 HK;(try clear y0);have HK:=hid hkk;clear hkk;obtain ⟨y1,y2,y3,y4⟩:=HX.out _ HK.out)
  | (go_at_call 20;refine (Hp.out _ _ HD3.out).mono ?_;rintro e X ⟨rfl,p2,hd,hk⟩;have HD2:=hid hd;clear hd;have hkk:=HK.out.trans hk;clear hk y1 y2 y3 y4 HK;(try clear y0);have HK:=hid hkk;clear hkk;obtain ⟨y1,y2,y3,y4⟩:=HX.out _ HK.out))
 go_ret2
 exact StepD.mk HB1.out HB.out (by unfold stepT;rfl) (by unfold stepT;rfl) HD2.out (Nat.le_succ _) (Nat.le_succ _) HRp.out HK.out
theorem stepD_any (h : D2 w0 w pb p n t r n t B) (hn : n < 2932031007330) {f x1 x2 q ls : Int} {d : Int} (hg : GoodO ⟨d,f,(x1,x2),q,ls⟩) (h0 : ¬ d = 0) (h1 : ¬ d = 1) (h2 : ¬ d = 2) (h3 : ¬ d = 3) (h4 : ¬ d = 4) :
  Calls Try.prog 10 #[.pointer (some ⟨pb,0,none⟩),.pointer (some ⟨r.pb,0,none⟩),.agg (oL ⟨d,f,(x1,x2),q,ls⟩).toArray] w (StepD w0 w n t ⟨d,f,(x1,x2),q,ls⟩ r B):=by
 unfold oL
 dsimp only
 obtain ⟨w1,hw1⟩ : ∃ w1,w1 = w.alloc (.cells #[.int .i64 d,.int .i64 f,.int .i64 x1,.int .i64 x2,.int .i64 q,.int .i64 ls] 31):=⟨_,rfl⟩
 have hb1 : Below w.heap.size w w1:=by rw [hw1];exact (Below.refl _ _).alloc (Nat.le_refl _) _
 have hz1 : w.heap.size < w1.heap.size:=by rw [hw1];simp
 have bx : BX w1 w.heap.size #[.int .i64 d,.int .i64 f,.int .i64 x1,.int .i64 x2,.int .i64 q,.int .i64 ls] 31:=by rw [hw1];exact BX.new w _ _
 have hD:=h.more hb1 (Nat.le_refl _) hz1
 have HD:=hid hD
 have HB:=hid h.2.lt
 have HB1:=hid hb1
 have HW1:=hid hw1
 have HN:=hid hn
 have HG:=hid hg
 have HX:=hid (fun X (hk : Kp (fun i=>B i ∨ i = w.heap.size) w1 X)=>(show X.cell? ⟨w.heap.size,1,none⟩ = some (.int .i64 f) ∧ X.cell? ⟨w.heap.size,2,none⟩ = some (.int .i64 x1) ∧ X.cell? ⟨w.heap.size,3,none⟩ = some (.int .i64 x2) ∧ X.cell? ⟨w.heap.size,4,none⟩ = some (.int .i64 q) from ⟨(hk.bx (.inr rfl) bx).cell 1,(hk.bx (.inr rfl) bx).cell 2,(hk.bx (.inr rfl) bx).cell 3,(hk.bx (.inr rfl) bx).cell 4⟩))
 have HK : Hid (Kp (fun i=>B i ∨ i = w.heap.size) w1 w1):=fun _ _=>rfl
 obtain ⟨y1,y2,y3,y4⟩:=HX.out w1 HK.out
 have y0 : w1.cell? ⟨w.heap.size,0,none⟩ = some (.int .i64 d):=bx.cell 0
 have Hcl:=hid (clone_any hD.1.pp hD.1.ok (by have:=hn;omega))
 have Hsm:=hid (fun W cb c p' n' t' (hd : (D2 w0 W pb p' n' t' r n t (fun i=>B i ∨ i = w.heap.size) ∧ Cp W w0.heap.size p' cb c n t r (fun i=>B i ∨ i = w.heap.size))) (e : t' = t)=>(same_any hd.2.pp hd.1.1.pp hd.2.ok hd.1.1.ok (by rw [hd.2.st,hd.1.1.st,e];exact Pf.Eqv.refl _) : Calls Try.prog 21 #[.pointer (some ⟨cb,0,none⟩),.pointer (some ⟨pb,0,none⟩)] W (EqPost W)))
 have Hen:=hid (fun W cb c p' n' t' (hd : (D2 w0 W pb p' n' t' r n t (fun i=>B i ∨ i = w.heap.size) ∧ Cp W w0.heap.size p' cb c n t r (fun i=>B i ∨ i = w.heap.size))) (hn : n' < 5000000000000)=>C2.enter hd hn hg.f)
 have Hca:=hid (fun W cb c p' n' t' (hd : (D2 w0 W pb p' n' t' r n t (fun i=>B i ∨ i = w.heap.size) ∧ Cp W w0.heap.size p' cb c n t r (fun i=>B i ∨ i = w.heap.size))) (hn : n' < 5000000000000)=>C2.call hd hn hg.x hg.k)
 have Hba:=hid (fun W cb c p' n' t' (hd : (D2 w0 W pb p' n' t' r n t (fun i=>B i ∨ i = w.heap.size) ∧ Cp W w0.heap.size p' cb c n t r (fun i=>B i ∨ i = w.heap.size))) (hn : n' < 5000000000000)=>C2.back hd hn hg.x)
 unfold EqPost at Hsm
 dsimp only at Hen Hca Hba
 have q0 : (d == 0) = false:=by simpa using h0
 have q1 : (d == 1) = false:=by simpa using h1
 have q2 : (d == 2) = false:=by simpa using h2
 have q3 : (d == 3) = false:=by simpa using h3
 have q4 : (d == 4) = false:=by simpa using h4
 have HT : Hid (stepT t ⟨d,f,(x1,x2),q,ls⟩ = t):=(if_neg h0).trans ((if_neg h1).trans ((if_neg h2).trans ((if_neg h3).trans (if_neg h4))))
 clear h0 h1 h2 h3 h4
 clear h hn hg hw1 hb1 hz1 bx hD
 go_enter Try.func10,Try.ntmps10
 go_upto_region 1 with fail
 rw [← HW1.out]
 go_wp2_with (first
  | (have _t:=HD5;clear _t;go_at_call 13;refine (Hba.out _ _ _ _ _ _ HD5.out (by have:=HN.out;omega)).mono ?_;rintro e X ⟨⟨z,rfl⟩,p2,hd,hk⟩;have HD6:=hid hd;clear hd;have hkk:=HK.out.trans hk;clear hk y1 y2 y3 y4 HK;(try clear y0);have HK:=hid hkk;clear hkk;obtain ⟨y1,y2,y3,y4⟩:=HX.out _ HK.out)
  | (have _t:=HD4;clear _t;go_at_call 14;refine (Hca.out _ _ _ _ _ _ HD4.out (by have:=HN.out;omega)).mono ?_;rintro e X ⟨⟨z,rfl⟩,p2,hd,hk⟩;have HD5:=hid hd;clear hd;have hkk:=HK.out.trans hk;clear hk y1 y2 y3 y4 HK;(try clear y0);have HK:=hid hkk;clear hkk;obtain ⟨y1,y2,y3,y4⟩:=HX.out _ HK.out)
  | (have _t:=HD3;clear _t;go_at_call 12;refine (Hen.out _ _ _ _ _ _ HD3.out (by have:=HN.out;omega)).mono ?_;rintro e X ⟨⟨z,rfl⟩,p2,hd,hk⟩;have HD4:=hid hd;clear hd;have hkk:=HK.out.trans hk;clear hk y1 y2 y3 y4 HK;(try clear y0);have HK:=hid hkk;clear hkk;obtain ⟨y1,y2,y3,y4⟩:=HX.out _ HK.out)
  | (have _t:=HD2;clear _t;go_at_call 21;refine (Hsm.out _ _ _ _ _ _ HD2.out rfl).mono ?_;rintro e X ⟨rfl,hb⟩;have HD3:=hid (And.intro (HD2.out.1.below hb).1 (HD2.out.2.below hb));have hk:=(HD2.out.1.below hb).2;have hkk:=HK.out.trans hk;clear hk y1 y2 y3 y4 HK;(try clear y0);have HK:=hid hkk;clear hkk;obtain ⟨y1,y2,y3,y4⟩:=HX.out _ HK.out)
  | (go_at_call 26;refine Hcl.out.mono ?_;rintro e X ⟨cb,c,rfl,hpp,hok,hst,hb⟩;have HD2:=hid (HD.out.copy hpp hok hst hb);have hk:=(HD.out.below hb).2;clear hpp hok hst hb;have hkk:=HK.out.trans hk;clear hk y1 y2 y3 y4 HK;(try clear y0);have HK:=hid hkk;clear hkk;obtain ⟨y1,y2,y3,y4⟩:=HX.out _ HK.out))
 go_ret2
 exact StepD.mk HB1.out HB.out HT.out HT.out (Cp.swap HD6.out.1 HD6.out.2) (Nat.le_succ _) (Nat.le_succ _) rfl HK.out
theorem step_any (h : D2 w0 w pb p n t r n t B) (hn : n < 2932031007330) {o : O} (hg : GoodO o) : Calls Try.prog 10 #[.pointer (some ⟨pb,0,none⟩),.pointer (some ⟨r.pb,0,none⟩),.agg (oL o).toArray] w (StepD w0 w n t o r B):=by
 obtain ⟨d,f,⟨x1,x2⟩,q,ls⟩:=o
 by_cases h0 : d = 0
 ·subst h0
  exact stepE_any h hn hg
 ·by_cases h1 : d = 1
  ·subst h1
   exact stepB_any h hn hg
  ·by_cases h2 : d = 2
   ·subst h2
    exact stepC_any h hn hg
   ·by_cases h3 : d = 3
    ·subst h3
     exact stepF_any h hn hg
    ·by_cases h4 : d = 4
     ·subst h4
      exact stepA_any h hn hg
     ·exact stepD_any h hn hg h0 h1 h2 h3 h4
end
end Go.Proofs.Ytfphiomhlhpphaa
namespace Go.Proofs.Ytfphiomhlhpphaa
open Go Go.RowKit
open Pf (Site Sn ix addk alt keys O)
set_option maxRecDepth 100000
set_option maxHeartbeats 4000000
theorem box6d {W : World} {b : Nat} {a0 a1 a2 a3 a4 a5 : Value} {T : TypeId} (h : BX W b #[a0,a1,a2,a3,a4,a5] T) : W.cell? ⟨b,0,none⟩ = some a0 ∧ W.cell? ⟨b,1,none⟩ = some a1 ∧ W.cell? ⟨b,2,none⟩ = some a2 ∧ W.cell? ⟨b,3,none⟩ = some a3 ∧ W.cell? ⟨b,4,none⟩ = some a4 ∧ W.cell? ⟨b,5,none⟩ = some a5:=⟨h.cell 0,h.cell 1,h.cell 2,h.cell 3,h.cell 4,h.cell 5⟩
theorem RefR.down {w : World} {base base' : Nat} {r : PR} (h : RefR w base r) (hb : base' ≤ base) : RefR w base' r:=⟨h.box,Kit.owns_mono h.er hb,Kit.owns_mono h.jr hb,Kit.owns_mono h.cr hb,fun x hx=>Kit.owns_mono (h.lr x hx) hb,Nat.le_trans hb h.low⟩
theorem good0 (b : Nat) : Good (pr0 b) 0:=⟨List.Pairwise.nil,List.Pairwise.nil,List.Pairwise.nil,(fun x hx=>by cases hx),(fun x hx=>by cases hx),(fun x hx=>by cases hx),Nat.le_refl _,Nat.le_refl _,Nat.le_refl _⟩
def sd (l : List O) : Pf.St:=l.foldl stepT Pf.st0
theorem sd_snoc (l : List O) (o : O) : sd (l ++ [o]) = stepT (sd l) o:=by
 unfold sd
 rw [List.foldl_append]
 rfl
theorem does_law (l : List O) (v : Value) (w : World) (hv : Kit.IsS 6 w v l.length (l.flatMap oL)) (hg : ∀ o ∈ l,GoodO o) (hl : l.length ≤ 2932031007317) :
  Calls Try.prog 3 #[v] w fun e w'=>e = .returned (.bool true) ∧ Below w.heap.size w w':=by
 obtain ⟨va,vc,rfl⟩:=hv.len
 have HN:=hid (newS w)
 have HRn:=hid (fun W=>rNew_any W)
 have HBg:=hid (fun W=>begun_any W)
 have HV:=hid (fun W (hb : Below w.heap.size w W)=>hv.below hb (Nat.le_refl _))
 have HG:=hid hg
 have HL:=hid hl
 clear hv hg
 go_enter Try.func3,Try.ntmps3
 go_upto_region 5 with (first
  | (go_at_call 7;refine HN.out.mono ?_;rintro e w1 ⟨pb,p,rfl,h1,h2,h3,h4⟩;have HP:=hid (And.intro h1 (And.intro h2 (And.intro h3 h4)));clear h1 h2 h3 h4)
  | (go_at_call 8;refine (HRn.out _).mono ?_;rintro e w2 ⟨rfl,hr,hb⟩;have HR:=hid (And.intro hr hb);clear hr hb)
  | (go_at_call 9;refine (HBg.out _).mono ?_;rintro e w3 ⟨rfl,hb⟩;have HB3:=hid hb;clear hb))
 have HD0 : Hid (D2 w w3 pb p 0 Pf.st0 (pr0 w1.heap.size) 0 Pf.st0 (fun _=>False)):=by
  obtain ⟨a1,a2,a3,a4⟩:=HP.out
  obtain ⟨b1,b2⟩:=HR.out
  have z4:=a4.size
  have z2:=b2.size
  have hb3:=HB3.out
  have e1:=belows b2 hb3 z2
  exact ⟨⟨a1.below e1,a2,a3,(b1.below hb3).down z4,good0 _,rfl,fun i h1 h2=>by have:=a1.has.lt i h1;have:=(b1.lows i h2).1;omega,fun h2=>by have:=a1.box.sz;have:=(b1.lows _ h2).1;omega,belows a4 e1 z4⟩,(fun b hb=>hb.elim),(fun b hb=>hb.elim),(fun b hb=>hb.elim)⟩
 obtain ⟨rb,hrb⟩ : ∃ x,w1.heap.size = x:=⟨_,rfl⟩
 rw [hrb] at HD0 ⊢
 clear HP HR HB3 hrb
 go_wp2
 go_loopw [3,18] (fun pv i wr=>∃ (k pb : Nat) (p : IV) (r : PR),pv = .pointer (some ⟨pb,0,none⟩) ∧ i = .int .i64 (k : Int) ∧ k ≤ l.length ∧ Hid (r.pb = rb) ∧ Hid (D2 w wr pb p k (sd (l.take k)) r k (sd (l.take k)) (fun _=>False))) (fun _ i _=>l.length - (intOf i).toNat)
 case atStart=>exact ⟨0,pb,p,pr0 rb,rfl,rfl,Nat.zero_le _,hid rfl,HD0.out⟩
 case round =>
  clear HD0
  obtain ⟨k,pb1,p1,r1,rfl,rfl,hk,HRb,HD⟩:=hrel
  by_cases hlt : k < l.length
  ·obtain ⟨x,hx⟩ : ∃ x,l[k]? = some x:=⟨_,List.getElem?_eq_getElem hlt⟩
   obtain ⟨b,o,cap,hvv,hbl,c0,c1,c2,c3,c4,c5⟩:=oS_at (HV.out _ HD.out.1.bl) hx
   obtain ⟨rfl,-,rfl⟩:=Value.slice.inj hvv
   have HGx:=hid (HG.out x (List.mem_of_getElem? hx))
   have HT:=hid (take_snoc hx)
   obtain ⟨d,f,⟨x1,x2⟩,q,ls⟩:=x
   dsimp only at c0 c1 c2 c3 c4 c5
   have hlt' : decide ((k : Int) < (l.length : Int)) = true:=decide_eq_true (by omega)
   clear hx hvv
   go_upto_region 9 with fail
   refine region_named fun Wb hWb=>?_
   have hbx : BX Wb wr.heap.size #[.int .i64 d,.int .i64 f,.int .i64 x1,.int .i64 x2,.int .i64 q,.int .i64 ls] 31:=by rw [hWb];exact BX.new wr _ _
   have hb9 : Below wr.heap.size wr Wb:=by rw [hWb];exact (Below.refl _ _).alloc (Nat.le_refl _) _
   have hDb:=HD.out.more hb9 (Nat.le_refl _) hbx.sz
   have HBx:=hid hbx
   obtain ⟨y0,y1,y2,y3,y4,y5⟩:=box6d hbx
   have HSt:=hid (step_any hDb (by have:=HL.out;omega) HGx.out)
   have HEq:=hid (fun W pb p r s (hd : D2 w W pb p (k + 1) s r (k + 1) s (fun i=>False ∨ i = wr.heap.size)) (hr : r.pb = rb)=>(by have:=equal_any hd.1 (by have:=HL.out;omega) (by have:=HL.out;omega) HGx.out;rw [hr] at this;exact this : Calls Try.prog 11 #[.pointer (some ⟨pb,0,none⟩),.pointer (some ⟨rb,0,none⟩),.agg (oL ⟨d,f,(x1,x2),q,ls⟩).toArray] W (EqPost W)))
   rw [HRb.out] at HSt
   unfold StepD at HSt
   unfold EqPost at HEq
   unfold oL at HSt HEq
   dsimp only at HSt HEq
   clear c0 c1 c2 c3 c4 c5 hWb hbx hb9 hDb HD
   go_wp2_with (first
    | (have _t:=HD4;clear _t;go_at_call 11;refine (HEq.out _ _ _ _ _ HD4.out HR4.out).mono ?_;rintro e W5 ⟨rfl,hb⟩;have HD5:=hid (HD4.out.below hb).1;clear hb)
    | (go_at_call 10;refine HSt.out.mono ?_;rintro e W4 ⟨pb2,p2,r2,rfl,hd,hrp,hk4⟩;have HD4:=hid hd;have HR4:=hid (hrp.trans HRb.out);clear y0 y1 y2 y3 y4 y5;obtain ⟨y0,y1,y2,y3,y4,y5⟩:=box6d (hk4.bx (.inr rfl) HBx.out);clear hd hrp hk4))
   go_roundw
   case rel=>exact ⟨k + 1,pb2,p2,r2,rfl,by go_num,by omega,HR4,hid (by rw [HT.out,sd_snoc];exact HD5.out.less (fun i e=>.inl e))⟩
   case measure=>simp [intOf];omega
  ·obtain rfl : k = l.length:=by omega
   go_wp2
   go_ret
   exact ⟨rfl,HD.out.1.bl⟩
end Go.Proofs.Ytfphiomhlhpphaa
