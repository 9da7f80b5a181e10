/- Own texts for the claim, part 17. -/
import Derived.Test.YtnojgiflgmnjlaaGreatDoorZD16
import Derived.Test.YtnojgiflgmnjlaaGreatDoorCards
import Derived.Test.YtnojgiflgmnjlaaGreatDoorTie
import Derived.Deep.DeepHandedRow
import Derived.Lib.LaidTab
import Derived.Lib.LaidIn
import Derived.Lib.LaidU8
import Derived.Stop.LaidErr
import Derived.Deep.RegionHeld3
set_option maxRecDepth 100000
namespace Go.Proofs.YtnojgiflgmnjlaaGreatDoor
open Go.RowKit
def CdPost (c : Cf.Cl) (vs : Array Value) (w : World) (e : Ending) (w' : World) : Prop :=
 ((Cf.ClIs c 0 ∧ e = .returned (.tuple #[.agg vs,.int .i64 0])) ∨ ∃ er,er ≠ 0 ∧ Cf.ClIs c er ∧ e = .returned (.tuple #[K0V,.int .i64 er])) ∧ Below w.heap.size w w'
set_option maxHeartbeats 1000000 in
theorem checked_any (c : Cf.Cl) (vs : Array Value) (w : World) (hk : Ck w c) (h : ClR w vs c) :
  Calls Tryz.prog 35 #[.agg vs] w (CdPost c vs w):=by
 have HC:=hid (fun W (k : Below w.heap.size w W)=>check_any c vs W (hk.below k) (h.below k (Nat.le_refl _)))
 obtain ⟨pv,fv,mv,rfl,hp,hf,hm⟩:=h
 obtain ⟨pa,pc,rfl⟩:=hp.len
 obtain ⟨fa,fc,rfl⟩:=hf.len
 obtain ⟨ma2,mc,rfl⟩:=hm.len
 unfold CdPost K0V
 clear hk hp hf hm
 go_enter Tryz.func35,Tryz.ntmps35
 go_wp2_with (go_at_call 17;(with_reducible refine (HC.out _ ?_).mono ?_);exact BLw;rintro e w1 ⟨er,hR,rfl,hb1⟩;obtain ⟨bC,bN,hzC,B1⟩:=boxes2 hb1;have HR:=hid hR;have q0:=bC.cell 0;have q1:=bC.cell 1;have q2:=bC.cell 2;have q3:=bC.cell 3;have q4:=bC.cell 4;have q5:=bC.cell 5;have q6:=bC.cell 6;have q7:=bC.cell 7;have n0:=bN.cell 0;have n1:=bN.cell 1;have n2:=bN.cell 2;have n3:=bN.cell 3;have n4:=bN.cell 4;have n5:=bN.cell 5;have n6:=bN.cell 6;have n7:=bN.cell 7;have f0:=bN.frozen 0;have f1:=bN.frozen 1;have f2:=bN.frozen 2;have f3:=bN.frozen 3;have f4:=bN.frozen 4;have f5:=bN.frozen 5;have f6:=bN.frozen 6;have f7:=bN.frozen 7;simp at q0 q1 q2 q3 q4 q5 q6 q7 n0 n1 n2 n3 n4 n5 n6 n7;clear hb1 bC bN;by_cases hz : er = 0;all_goals (first|(subst hz;clear hR)|(have hd : (er != 0) = true:=(by simpa using hz);have HZ:=hid hz;clear hz hR)))
 ·exact bodyPost_ret (v:=.tuple #[.agg #[.int .i64 c.mi,.int .i64 c.ma,.slice pa c.pool.length pc,.int .i64 c.ac,.int .i64 c.th,.int .i64 c.su,.slice fa c.fs.length fc,.slice ma2 c.ms.length mc],.int .i64 0]) (by simp [results,Tryz.results35,go_sem,n0,n1,n2,n3,n4,n5,n6,n7]) rfl ⟨.inl ⟨HR.out,rfl⟩,BLw⟩
 ·exact bodyPost_ret (v:=.tuple #[.agg #[.int .i64 0,.int .i64 0,.slice none 0 0,.int .i64 0,.int .i64 0,.int .i64 0,.slice none 0 0,.slice none 0 0],.int .i64 er]) (by simp [results,Tryz.results35,go_sem,n0,n1,n2,n3,n4,n5,n6,n7]) rfl ⟨.inr ⟨er,HZ.out,HR.out,rfl⟩,BLw⟩
theorem k0_reads (w : World) : ClR w #[.int .i64 0,.int .i64 0,.slice none 0 0,.int .i64 0,.int .i64 0,.int .i64 0,.slice none 0 0,.slice none 0 0] Cf.K0 :=
 ⟨_,_,_,rfl,⟨rfl,by simp [Cf.K0],.inl ⟨rfl,none,0,rfl⟩⟩,⟨[],trivial,rfl,by simp [Cf.K0],.inl ⟨rfl,none,0,rfl⟩⟩,⟨[],trivial,rfl,by simp [Cf.K0],.inl ⟨rfl,none,0,rfl⟩⟩⟩
theorem pool_small {l : List L3.Cp.C} (h : L3.CkIs l 0) : ∀ c ∈ l,c.s.size ≤ 255:=by
 intro c hc
 obtain ⟨i,hi⟩:=List.mem_iff_getElem?.1 hc
 have hlt : i < l.length:=(List.getElem?_eq_some_iff.1 hi).1
 have h2:=(L3.ck_all.1 h).2 i hlt
 unfold L3.errAt at h2
 rw [hi] at h2
 dsimp only at h2
 by_cases hp : L3.prevB l i = true
 ·rw [if_pos hp] at h2
  by_cases h0 : c = L3.Cp.C0
  ·subst h0;show (⟨#[]⟩ : ByteArray).size ≤ 255;decide
  ·rw [if_neg h0] at h2;omega
 ·rw [if_neg hp] at h2
  by_cases hl : c.t = 5 ∧ i = l.length - 1
  ·rw [if_pos hl] at h2;omega
  ·rw [if_neg hl] at h2
   exact (L3.ce_size h2).2.2.1
theorem Cf.bnd_inv {α β : Type} {x : Cf.Ps α} {f : α → Cf.Ps β} {l : List UInt8} {y : β × List UInt8} (h : Cf.bnd x f l = .ok y) : ∃ a r,x l = .ok (a,r) ∧ f a r = .ok y:=by
 unfold Cf.bnd at h
 cases hx : x l with
 | error e=>rw [hx] at h;cases h
 | ok z=>obtain ⟨a,r⟩:=z;rw [hx] at h;exact ⟨a,r,rfl,h⟩
theorem cl_pool {bs r : List UInt8} {c : Cf.Cl} (h : Cf.clP bs = .ok (c,r)) : L3.CkIs c.pool 0 ∧ (∀ x ∈ c.pool,L3.I6 x.n):=by
 unfold Cf.clP at h
 obtain ⟨_,_,-,h⟩:=Cf.bnd_inv h
 obtain ⟨_,_,-,h⟩:=Cf.bnd_inv h
 obtain ⟨_,_,-,h⟩:=Cf.bnd_inv h
 obtain ⟨_,_,-,h⟩:=Cf.bnd_inv h
 obtain ⟨_,_,-,h⟩:=Cf.bnd_inv h
 obtain ⟨P,_,hP,h⟩:=Cf.bnd_inv h
 obtain ⟨_,_,-,h⟩:=Cf.bnd_inv h
 obtain ⟨_,_,-,h⟩:=Cf.bnd_inv h
 obtain ⟨_,_,-,h⟩:=Cf.bnd_inv h
 obtain ⟨_,_,-,h⟩:=Cf.bnd_inv h
 obtain ⟨_,_,-,h⟩:=Cf.bnd_inv h
 obtain ⟨_,_,-,h⟩:=Cf.bnd_inv h
 obtain ⟨_,_,-,h⟩:=Cf.bnd_inv h
 obtain ⟨_,_,-,h⟩:=Cf.bnd_inv h
 have e:=Prod.mk.inj (Except.ok.inj h)
 rw [← e.1]
 have hf:=L3.pl_forth hP
 exact ⟨hf.1,hf.2.1⟩
end Go.Proofs.YtnojgiflgmnjlaaGreatDoor
namespace Go.Proofs.YtnojgiflgmnjlaaGreatDoor
open Go.ChangeShapes Go.WideShapes Go.ChangeAt Go.RowKit
theorem own : ownKnob Tryz.prog.godebug = none:=by kernel_rfl
theorem gForms : Tryz.prog.globalNamed "tabard/opcode.forms" = some 5:=by kernel_rfl
theorem gBehind : Tryz.prog.globalNamed "tabard/opcode.behind" = some 1:=by kernel_rfl
theorem tForms : (Tryz.prog.globals[5]?).map (·.type) = some 247:=by kernel_rfl
theorem tBehind : (Tryz.prog.globals[1]?).map (·.type) = some 232:=by kernel_rfl
theorem cellsForms : Tryz.prog.cellsOf 247 = 200:=by kernel_rfl
theorem cellsBehind : Tryz.prog.cellsOf 232 = 9:=by kernel_rfl
theorem cellsByte : Tryz.prog.cellsOf 5 = 1:=by kernel_rfl
def formInts : List Int:=L1.Op1.forms.map fun n : Nat=>(n : Int)
def behindInts : List Int:=L1.Op1.behinds.map fun n : Nat=>(n : Int)
theorem gTags : Tryz.prog.globalNamed "tabard/cpool.tags" = some 0:=by kernel_rfl
theorem tTags : (Tryz.prog.globals[0]?).map (·.type) = some 205:=by kernel_rfl
theorem cellsW : Tryz.prog.cellsOf 169 = 4:=by kernel_rfl
theorem cellsI : Tryz.prog.cellsOf 3 = 1:=by kernel_rfl
def wdI (k : Nat) : List Int:=[((L3.Cp.wd k).1 : Int),(L3.Cp.wd k).2.1,(L3.Cp.wd k).2.2.1,(L3.Cp.wd k).2.2.2]
def tagData : DataW Unit:=.agg ((List.range 13).map fun k=>.agg ((wdI k).map fun z=>.lit (.int .i64 z)))
def laidL : List (String × DataW Unit):=[("unicode/utf8.acceptRanges",Rows.laid_unicode_utf8_acceptRanges),("tabard/cpool.tags",Rows.laid_tabard_cpool_tags),("tabard/opcode.forms",Rows.laid_tabard_opcode_forms),("tabard/opcode.behind",Rows.laid_tabard_opcode_behind),("unicode/utf8.first",Rows.laid_unicode_utf8_first)]
theorem laid_eq : laidL = [("unicode/utf8.acceptRanges",Rows.laid_unicode_utf8_acceptRanges),("tabard/cpool.tags",tagData),("tabard/opcode.forms",Lib.tabData .u8 formInts),("tabard/opcode.behind",Lib.tabData .u8 behindInts),("unicode/utf8.first",Rows.laid_unicode_utf8_first)]:=by kernel_rfl
theorem tabs1_of_laid {W : World} (h : laidMet Tryz.prog laidL W) : L1.Tabs W:=by
 rw [laid_eq] at h
 have h1 : Lib.TabIs Tryz.prog W "tabard/opcode.forms" .u8 formInts:=Lib.tabIs_of_head gForms tForms Tryz.underlying247 Tryz.underlying5 cellsByte cellsForms h.tail.tail
 have h2 : Lib.TabIs Tryz.prog W "tabard/opcode.behind" .u8 behindInts:=Lib.tabIs_of_head gBehind tBehind Tryz.underlying232 Tryz.underlying5 cellsByte cellsBehind h.tail.tail.tail
 have l1 : formInts.length = 200:=by kernel_rfl
 have l2 : behindInts.length = 9:=by kernel_rfl
 have c1 : ∀ k,k < 200 → W.cell? ⟨5,k,none⟩ = some (.int .u8 (L1.Op1.forms.getD k 0 : Nat)):=fun k hk=>by
  rw [h1.cell gForms k (by omega)]
  have : formInts.getD k 0 = ((L1.Op1.forms.getD k 0 : Nat) : Int):=(show ∀ k,k < 200 → formInts.getD k 0 = ((L1.Op1.forms.getD k 0 : Nat) : Int) by decide +kernel) k hk
  rw [this]
 have c2 : ∀ k,k < 9 → W.cell? ⟨1,k,none⟩ = some (.int .u8 (L1.Op1.behinds.getD k 0 : Nat)):=fun k hk=>by
  rw [h2.cell gBehind k (by omega)]
  have : behindInts.getD k 0 = ((L1.Op1.behinds.getD k 0 : Nat) : Int):=(show ∀ k,k < 9 → behindInts.getD k 0 = ((L1.Op1.behinds.getD k 0 : Nat) : Int) by decide +kernel) k hk
  rw [this]
 exact ⟨⟨World.block_lt_of_cell? W _ (c1 0 (by omega)),World.block_lt_of_cell? W _ (c2 0 (by omega))⟩,c1,c2⟩
theorem tabs3_of_laid {W : World} (h : laidMet Tryz.prog laidL W) : L3.Tabs W:=by
 rw [laid_eq] at h
 obtain ⟨g,t,cs,fuel,p,hg,hty,hvar,hd⟩:=Lib.laidMet.reads h (n := "tabard/cpool.tags") (d:=tagData) (by simp)
 obtain rfl:=Option.some.inj (gTags.symm.trans hg)
 obtain rfl:=Option.some.inj (tTags.symm.trans hty)
 have key : ∀ k,k < 13 → ∀ j z,(wdI k)[j]? = some z → W.cell? ⟨0,k * 4 + j,none⟩ = some (.int .i64 z):=by
  intro k hk j z hz
  obtain ⟨fuel',d,q,hdi,he⟩:=Lib.array_elem Tryz.underlying205 hd k hk
  simp only [List.getElem?_map,List.getElem?_range hk,Option.map_some,Option.some.injEq] at hdi
  subst hdi
  rw [cellsW] at he
  have hcs:=Lib.ints_of_struct Tryz.underlying169 (fun j f hj=>by
   match j,hj with
   | 0,hj=>simp at hj;subst hj;exact ⟨Tryz.underlying3,rfl,cellsI⟩
   | 1,hj=>simp at hj;subst hj;exact ⟨Tryz.underlying3,rfl,cellsI⟩
   | 2,hj=>simp at hj;subst hj;exact ⟨Tryz.underlying3,rfl,cellsI⟩
   | 3,hj=>simp at hj;subst hj;exact ⟨Tryz.underlying3,rfl,cellsI⟩
   | j + 4,hj=>simp at hj) (by rw [cellsW];rfl) he
  have hj4 : j < 4:=by rw [List.getElem?_eq_some_iff] at hz;exact hz.1
  have e0:=congrArg (·[j]?) hcs
  simp only [List.getElem?_take_of_lt hj4,List.getElem?_drop,List.getElem?_map,hz,Option.map_some] at e0
  rw [World.var?_cell hg hvar (k * 4 + j),← Array.getElem?_toList]
  exact e0
 refine ⟨World.block_lt_of_cell? W _ (key 0 (by omega) 0 _ rfl),fun k hk=>⟨?_,?_,?_,?_⟩⟩
 ·exact key k hk 0 _ rfl
 ·exact key k hk 1 _ rfl
 ·exact key k hk 2 _ rfl
 ·exact key k hk 3 _ rfl
def putCells (cs : Array Value) : Obj → Obj
 | .cells _ t frozen=>.cells cs t frozen
 | o=>o
noncomputable def laidWorld (os : Os) : World :=
 { World.holding Tryz.prog os ⟨#[],#[],[]⟩ with
  heap:=(((((World.holding Tryz.prog os ⟨#[],#[],[]⟩).heap.modify 0 (putCells ((List.range 13).flatMap fun k=>(wdI k).map fun z=>Value.int .i64 z).toArray)).modify 5 (putCells (formInts.map fun z=>Value.int .u8 z).toArray)).modify 1 (putCells (behindInts.map fun z=>Value.int .u8 z).toArray)).modify 2 (putCells (Lib.firstTab.map fun z=>Value.int .u8 z).toArray)).modify 3 (putCells ((List.range 16).flatMap fun i=>[Value.int .u8 (Lib.accLo i),Value.int .u8 (Lib.accHi i)]).toArray) }
section
variable {H : Type} {enc : TypeId × Value → H}
theorem weights_eachT {P : Program} : ∀ {ts : List TypeId} {ds : List (DataW H)} {j : Nat} {t : TypeId} {d : DataW H},ts[j]? = some t → ds[j]? = some d → (DataW.weightsEach P ts ds).all (·≤ reachBytes) = true → (d.weights P t).all (·≤ reachBytes) = true
 | [],_,_,_,_,h,_,_=>by simp at h
 | _ :: _,[],_,_,_,_,h,_=>by simp at h
 | t :: ts,d :: ds,0,_,_,h1,h2,h=>by
  simp only [List.getElem?_cons_zero,Option.some.injEq] at h1 h2
  subst h1 h2
  simp only [DataW.weightsEach,List.all_append,Bool.and_eq_true] at h
  exact h.1
 | t :: ts,d :: ds,j + 1,_,_,h1,h2,h=>by
  simp only [DataW.weightsEach,List.all_append,Bool.and_eq_true] at h
  exact weights_eachT (j:=j) (by simpa using h1) (by simpa using h2) h.2
end
end Go.Proofs.YtnojgiflgmnjlaaGreatDoor
namespace Go.Proofs.YtnojgiflgmnjlaaGreatDoor
open Go.RowKit
def DcPost (bs : List UInt8) (w : World) (e : Ending) (w' : World) : Prop :=
 ∃ c er vs,Cf.DcIs bs c er ∧ e = .returned (.tuple #[.agg vs,.int .i64 er]) ∧ ClR w' vs c ∧ (∀ x ∈ c.pool,x.s.size ≤ 255 ∧ L3.I6 x.n) ∧ (c.pool.length ≤ 4097 ∧ c.fs.length ≤ 65535 ∧ c.ms.length ≤ 65535) ∧ Below w.heap.size w w'
theorem decB {w w1 : World} {o o' : Obj} (hg : ((w.alloc o).alloc o').grownBy w1 (some (w.heap.size + 1))) : Below w.heap.size w w1:=by
 have z:=hg.size
 simp only [World.size_alloc] at z
 have h2 : Below w.heap.size w ((w.alloc o).alloc o'):=BLw
 exact ⟨hg.os.trans h2.os,hg.tape.trans h2.tape,hg.output.trans h2.output,by omega,fun i hi=>(hg.block i (by simp only [World.size_alloc];omega) (fun e=>by have:=Option.some.inj e;omega)).trans (h2.block i hi)⟩
theorem bnd_err_ne {α β : Type} {x : Cf.Ps α} {f : α → Cf.Ps β} (hx : ∀ l e,x l = .error e → e ≠ 0) (hf : ∀ a l e,f a l = .error e → e ≠ 0) (l : List UInt8) (e : Int) (h : Cf.bnd x f l = .error e) : e ≠ 0:=by
 unfold Cf.bnd at h
 cases hy : x l with
 | error e'=>rw [hy] at h;cases h;exact hx l _ hy
 | ok z=>obtain ⟨a,r⟩:=z;rw [hy] at h;exact hf a r e h
theorem u2_ne (l : List UInt8) (e : Int) (h : Cf.u2 l = .error e) : e ≠ 0:=by
 match l,h with
 | [],h|[_],h=>cases h;decide
 | _ :: _ :: _,h=>cases h
theorem ret_ne {α : Type} (a : α) (l : List UInt8) (e : Int) (h : Cf.ret a l = .error e) : e ≠ 0:=by cases h
theorem want_ne {b : Bool} {er : Int} (he : er ≠ 0) (l : List UInt8) (e : Int) (h : Cf.want b er l = .error e) : e ≠ 0:=by
 unfold Cf.want at h
 split at h
 ·cases h
 ·cases h;exact he
theorem u4_ne (l : List UInt8) (e : Int) (h : Cf.u4 l = .error e) : e ≠ 0:=bnd_err_ne u2_ne (fun _=>bnd_err_ne u2_ne fun _=>ret_ne _) l e h
theorem none_ne (l : List UInt8) (e : Int) (h : Cf.noneP l = .error e) : e ≠ 0:=bnd_err_ne u2_ne (fun _=>want_ne (by decide)) l e h
theorem take_ne (n : Nat) (l : List UInt8) (e : Int) (h : Cf.takeP n l = .error e) : e ≠ 0:=by
 unfold Cf.takeP at h
 split at h
 ·cases h
 ·cases h;decide
theorem listP_ne {α : Type} {p : Cf.Ps α} (hp : ∀ l e,p l = .error e → e ≠ 0) : ∀ (n : Nat) (l : List UInt8) (e : Int),Cf.listP p n l = .error e → e ≠ 0
 | 0,l,e,h=>ret_ne _ l e h
 | n + 1,l,e,h=>bnd_err_ne hp (fun _=>bnd_err_ne (listP_ne hp n) fun _=>ret_ne _) l e h
theorem listN_ne {α : Type} {p : Cf.Ps α} (hp : ∀ l e,p l = .error e → e ≠ 0) (l : List UInt8) (e : Int) (h : Cf.listN p l = .error e) : e ≠ 0:=bnd_err_ne u2_ne (fun _=>listP_ne hp _) l e h
theorem mb_ne (l : List UInt8) (e : Int) (h : Cf.mbP l = .error e) : e ≠ 0:=bnd_err_ne u2_ne (fun _=>bnd_err_ne u2_ne fun _=>bnd_err_ne u2_ne fun _=>ret_ne _) l e h
theorem hn_ne (l : List UInt8) (e : Int) (h : Cf.hnP l = .error e) : e ≠ 0:=bnd_err_ne u2_ne (fun _=>bnd_err_ne u2_ne fun _=>bnd_err_ne u2_ne fun _=>bnd_err_ne u2_ne fun _=>ret_ne _) l e h
theorem fd_ne (l : List UInt8) (e : Int) (h : Cf.fdP l = .error e) : e ≠ 0:=bnd_err_ne mb_ne (fun _=>bnd_err_ne none_ne fun _=>ret_ne _) l e h
theorem body_ne (m : Cf.Mb) (l : List UInt8) (e : Int) (h : Cf.bodyP m l = .error e) : e ≠ 0 :=
 bnd_err_ne u2_ne (fun _=>bnd_err_ne u2_ne fun _=>bnd_err_ne u4_ne fun _=>bnd_err_ne (take_ne _) fun _=>bnd_err_ne (listN_ne hn_ne) fun _=>bnd_err_ne none_ne fun _=>ret_ne _) l e h
theorem sized_ne (n : Int) (m : Cf.Mb) (l : List UInt8) (e : Int) (h : Cf.sizedP n m l = .error e) : e ≠ 0:=by
 unfold Cf.sizedP at h
 split at h
 ·rename_i hb;cases h;exact body_ne m l _ hb
 ·split at h
  ·cases h
  ·cases h;decide
theorem me_ne (code : Int) (l : List UInt8) (e : Int) (h : Cf.meP code l = .error e) : e ≠ 0 :=
 bnd_err_ne mb_ne (fun _=>bnd_err_ne u2_ne fun _=>bnd_err_ne (want_ne (by decide)) fun _=>bnd_err_ne u2_ne fun _=>bnd_err_ne (want_ne (by decide)) fun _=>bnd_err_ne u4_ne fun _=>sized_ne _ _) l e h
theorem left_ne (l : List UInt8) (e : Int) (h : Cf.leftP l = .error e) : e ≠ 0:=by
 unfold Cf.leftP at h
 split at h
 ·cases h
 ·cases h;decide
theorem cl_ne (l : List UInt8) (e : Int) (h : Cf.clP l = .error e) : e ≠ 0 :=
 bnd_err_ne u4_ne (fun _=>bnd_err_ne (want_ne (by decide)) fun _=>bnd_err_ne u2_ne fun _=>bnd_err_ne u2_ne fun _=>bnd_err_ne (want_ne (by decide)) fun _=>bnd_err_ne (fun _ _ h=>L3.plP_err h) fun _=>bnd_err_ne u2_ne fun _=>bnd_err_ne u2_ne fun _ =>
  bnd_err_ne u2_ne fun _=>bnd_err_ne none_ne fun _=>bnd_err_ne (listN_ne fd_ne) fun _=>bnd_err_ne (listN_ne (me_ne _)) fun _=>bnd_err_ne none_ne fun _=>bnd_err_ne left_ne fun _=>ret_ne _) l e h
theorem cl_err {bs : List UInt8} {er : Int} (h : Cf.clP bs = .error er) : er ≠ 0:=cl_ne bs er h
end Go.Proofs.YtnojgiflgmnjlaaGreatDoor
namespace Go.Proofs.YtnojgiflgmnjlaaGreatDoor
open Go Go.RowKit
namespace Cf
def Run {α : Type} (p : Ps α) (s : List UInt8 × Int) (a : α) (t : List UInt8 × Int) : Prop :=
 (s.2 ≠ 0 → t.2 = s.2) ∧ (s.2 = 0 → (∃ e,p s.1 = .error e ∧ e ≠ 0 ∧ t.2 = e) ∨ (p s.1 = .ok (a,t.1) ∧ t.2 = 0))
theorem Run.bnd {α β : Type} {p : Ps α} {f : α → Ps β} {s t u : List UInt8 × Int} {a : α} {b : β} (h : Run p s a t) (k : Run (f a) t b u) : Run (bnd p f) s b u:=by
 refine ⟨fun hs=>?_,fun hs=>?_⟩
 ·have h1:=h.1 hs
  rw [← h1]
  exact k.1 (by rw [h1];exact hs)
 ·rcases h.2 hs with ⟨e,h1,h2,h3⟩|⟨h1,h2⟩
  ·exact .inl ⟨e,bnd_err h1,h2,by rw [k.1 (by rw [h3];exact h2),h3]⟩
  ·rcases k.2 h2 with ⟨e,k1,k2,k3⟩|⟨k1,k2⟩
   ·exact .inl ⟨e,by rw [bnd_ok h1];exact k1,k2,k3⟩
   ·exact .inr ⟨by rw [bnd_ok h1];exact k1,k2⟩
theorem Run.ret {α : Type} (a : α) (s : List UInt8 × Int) : Run (ret a) s a s:=⟨fun _=>rfl,fun h=>.inr ⟨rfl,h⟩⟩
theorem Run.dead {α : Type} {p : Ps α} {s t : List UInt8 × Int} {a : α} (hs : s.2 ≠ 0) (ht : t.2 = s.2) : Run p s a t:=⟨fun _=>ht,fun h=>absurd h hs⟩
theorem Run.alive {α : Type} {p : Ps α} {s t : List UInt8 × Int} {a : α} (h : Run p s a t) (ht : t.2 = 0) : s.2 = 0 ∧ p s.1 = .ok (a,t.1):=by
 by_cases hs : s.2 = 0
 ·rcases h.2 hs with ⟨e,-,h2,h3⟩|⟨h1,-⟩
  ·exact absurd (h3.symm.trans ht) h2
  ·exact ⟨hs,h1⟩
 ·exact absurd ((h.1 hs).symm.trans ht) hs
theorem Run.failed {α : Type} {p : Ps α} {s t : List UInt8 × Int} {a : α} (h : Run p s a t) (hs : s.2 = 0) (ht : t.2 ≠ 0) : p s.1 = .error t.2:=by
 rcases h.2 hs with ⟨e,h1,-,h3⟩|⟨-,h2⟩
 ·rw [h3];exact h1
 ·exact absurd h2 ht
theorem Run.want {b : Bool} {e : Int} (he : e ≠ 0) {s t : List UInt8 × Int} (h : t = if b = false ∧ s.2 = 0 then (s.1,e) else s) : Run (want b e) s () t:=by
 subst h
 refine ⟨fun hs=>?_,fun hs=>?_⟩
 ·rw [if_neg (fun h=>hs h.2)]
 ·cases b
  ·rw [if_pos ⟨rfl,hs⟩];exact .inl ⟨e,rfl,he,rfl⟩
  ·rw [if_neg (fun h=>by cases h.1)];exact .inr ⟨rfl,hs⟩
def numP (n : Nat) : Ps Int:=fun l=>if n ≤ l.length then .ok (L3.Cp.numU (l.take n),l.drop n) else .error 30
theorem numP_2 : numP 2 = u2:=by
 funext l
 unfold numP
 match l with
 | []=>rfl
 | [_]=>rfl
 | a :: b :: r =>
  rw [if_pos (by simp)]
  unfold u2
  simp [L3.Cp.numU]
theorem numP_4 : numP 4 = u4:=by
 funext l
 unfold numP
 match l with
 | []=>rfl
 | [_]=>rfl
 | [_,_]=>rfl
 | [_,_,_]=>rfl
 | a :: b :: c :: d :: r =>
  rw [if_pos (by simp)]
  unfold u4 bnd u2 ret
  simp [L3.Cp.numU]
  omega
end Cf
def RdD (w : World) (pb : Nat) (bs : List UInt8) (s : List UInt8 × Int) : Prop :=
 ∃ (v : Value) (k : Nat),L3.BX w pb #[v,.int .i64 k,.int .i64 s.2] 65 ∧ L3.Bs pb w v bs ∧ k ≤ bs.length ∧ s.1 = bs.drop k
theorem RdD.sz {w : World} {pb : Nat} {bs : List UInt8} {s : List UInt8 × Int} (h : RdD w pb bs s) : pb < w.heap.size:=by obtain ⟨v,k,h,-⟩:=h;exact h.sz
theorem RdD.below {w w' : World} {pb n : Nat} {bs : List UInt8} {s : List UInt8 × Int} (h : RdD w pb bs s) (hb : Below n w w') (hp : pb < n) : RdD w' pb bs s:=by
 obtain ⟨v,k,h1,h2,h3⟩:=h
 exact ⟨v,k,h1.below hb hp,h2.below hb (by omega),h3⟩
def StD (pb : Nat) (bs : List UInt8) (s : List UInt8 × Int) (w w' : World) : Prop:=w.grownBy w' (some pb) ∧ RdD w' pb bs s
theorem bs_grown {w w' : World} {pb : Nat} {v : Value} {bs : List UInt8} (h : L3.Bs pb w v bs) (hp : pb < w.heap.size) (hg : w.grownBy w' (some pb)) : L3.Bs pb w' v bs :=
 h.same fun b o hl=>World.cell?_of_block (hg.block b (by omega) (fun e=>by have:=Option.some.inj e;omega))
theorem fail_k (pb : Nat) (v : Value) (k z : Int) (x : Bool) (er : Int) (w : World) (hb : L3.BX w pb #[v,.int .i64 k,.int .i64 z] 65) :
  Calls Tryz.prog 36 #[.pointer (some ⟨pb,0,none⟩),.bool x,.int .i64 er] w fun e w'=>e = .returned (.tuple #[]) ∧ w.grownBy w' (some pb) ∧ L3.BX w' pb #[v,.int .i64 k,.int .i64 (if x = true ∧ z = 0 then er else z)] 65:=by
 have HB:=hid hb
 have q2:=hb.cell 2
 have f2:=hb.frozen 2
 simp at q2
 clear hb
 cases x
 ·rw [show (if false = true ∧ z = 0 then er else z) = z from if_neg (fun h=>by cases h.1)]
  go_enter Tryz.func36,Tryz.ntmps36
  go_wp2
  exact bodyPost_end (results_none rfl _ _ _) rfl ⟨rfl,L3.grown_refl _ _,HB.out⟩
 ·by_cases hz : z = 0
  ·subst hz
   rw [show (if true = true ∧ (0 : Int) = 0 then er else 0) = er from if_pos ⟨rfl,rfl⟩]
   have hn:=HB.out.set 2 (.int .i64 er)
   simp only [List.setIfInBounds_toArray,List.set_cons_zero,List.set_cons_succ] at hn
   have HN:=hid hn
   have HG:=hid (L3.set_grown w pb 2 (.int .i64 er))
   clear hn
   go_enter Tryz.func36,Tryz.ntmps36
   go_wp2
   exact bodyPost_end (results_none rfl _ _ _) rfl ⟨rfl,HG.out,HN.out⟩
  ·have hd : (z == 0) = false:=by simpa using hz
   rw [show (if true = true ∧ z = 0 then er else z) = z from if_neg (fun h=>hz h.2)]
   have HZ:=hid hz
   clear hz
   go_enter Tryz.func36,Tryz.ntmps36
   go_wp2
   exact bodyPost_end (results_none rfl _ _ _) rfl ⟨rfl,L3.grown_refl _ _,HB.out⟩
theorem fail_any (pb : Nat) (bs : List UInt8) (s : List UInt8 × Int) (x : Bool) (er : Int) (w : World) (hr : RdD w pb bs s) :
  Calls Tryz.prog 36 #[.pointer (some ⟨pb,0,none⟩),.bool x,.int .i64 er] w fun e w'=>e = .returned (.tuple #[]) ∧ StD pb bs (if (!x) = false ∧ s.2 = 0 then (s.1,er) else s) w w':=by
 obtain ⟨v,k,hb,hv,hk,hs⟩:=hr
 refine (fail_k pb v k s.2 x er w hb).mono ?_
 rintro e w' ⟨rfl,hg,hb'⟩
 refine ⟨rfl,hg,v,k,?_,bs_grown hv hb.sz hg,hk,?_⟩
 ·cases x <;> by_cases hz : s.2 = 0 <;> simp_all
 ·split
  ·exact hs
  ·exact hs
theorem grown_drN {w w' : World} {row : Option Nat} (h : w.grownBy w' row) (n : Nat) : w.grownBy (w'.drewN n) row:=⟨h.os,h.tape,h.output,h.size,h.block⟩
theorem numU_pos (l : List UInt8) : 0 ≤ L3.Cp.numU l:=(L3.Cp.numU_range l).1
theorem numU_four {l : List UInt8} (h : l.length ≤ 4) : L3.Cp.numU l < 4294967296:=by
 have h1:=(L3.Cp.numU_range l).2
 obtain h0|h0|h0|h0|h0 : l.length = 0 ∨ l.length = 1 ∨ l.length = 2 ∨ l.length = 3 ∨ l.length = 4:=by omega
 all_goals (rw [h0] at h1;simp at h1;omega)
theorem numU_two {l : List UInt8} (h : l.length ≤ 2) : L3.Cp.numU l < 65536:=by
 have h1:=(L3.Cp.numU_range l).2
 obtain h0|h0|h0 : l.length = 0 ∨ l.length = 1 ∨ l.length = 2:=by omega
 all_goals (rw [h0] at h1;simp at h1;omega)
def ByPost (pb : Nat) (bs : List UInt8) (s : List UInt8 × Int) (n : Nat) (w : World) (e : Ending) (w' : World) : Prop :=
 ∃ v t l,e = .returned v ∧ L3.Bs pb w' v l ∧ StD pb bs t w w' ∧ ((s.2 = 0 ∧ n ≤ s.1.length ∧ l = s.1.take n ∧ t = (s.1.drop n,0)) ∨ (s.2 = 0 ∧ s.1.length < n ∧ l = [] ∧ t.2 = 30) ∨ (s.2 ≠ 0 ∧ l = [] ∧ t.2 = s.2))
set_option maxHeartbeats 1000000 in
theorem bytes_dead (pb n k : Nat) (bs : List UInt8) (z : Int) (a : Option Addr) (cap : Nat) (w : World) (hb : L3.BX w pb #[.slice a bs.length cap,.int .i64 k,.int .i64 z] 65) (hv : L3.Bs pb w (.slice a bs.length cap) bs) (hk : k ≤ bs.length) (hn : n ≤ 4294967296) (hz : z ≠ 0) :
  Calls Tryz.prog 81 #[.pointer (some ⟨pb,0,none⟩),.int .i64 n] w fun e w'=>e = .returned (.slice none 0 0) ∧ w.grownBy w' (some pb) ∧ L3.BX w' pb #[.slice a bs.length cap,.int .i64 k,.int .i64 z] 65:=by
 have hlen:=hv.1
 have hz9:=hb.sz
 have HB:=hid hb
 have HV:=hid hv
 have q0:=hb.cell 0
 have q1:=hb.cell 1
 have q2:=hb.cell 2
 simp at q0 q1 q2
 have hsub : IntKind.i64.wrap ((bs.length : Int) - (k : Int)) = (bs.length : Int) - (k : Int):=IntWalk.i64_in _ (by omega)
 have hd : (z != 0) = true:=by simpa using hz
 have HF:=hid (fun x W (h : L3.BX W pb #[.slice a bs.length cap,.int .i64 k,.int .i64 z] 65)=>(fail_k pb (.slice a bs.length cap) k z x 30 W h).mono (R':=fun e w'=>e = .returned (.tuple #[]) ∧ W.grownBy w' (some pb) ∧ L3.BX w' pb #[.slice a bs.length cap,.int .i64 k,.int .i64 z] 65) (fun e w' ⟨h1,h2,h3⟩=>⟨h1,h2,by rw [if_neg (fun h=>hz h.2)] at h3;exact h3⟩))
 have HF:=hid (fun x=>HF.out x)
 have HZ:=hid hz
 clear hb hv hz
 go_enter Tryz.func81,Tryz.ntmps81
 go_wp2_with fail
 go_region_held3 (fun w'=>w'.cell? ⟨pb,0,none⟩ = some (.slice a bs.length cap) ∧ w'.cell? ⟨pb,1,none⟩ = some (.int .i64 k))
  (first|exact ⟨q0,q1⟩|go_keep)
  (first|(go_at_call 36;refine (HF.out _ _ (HB.out.below (Below.refl w.heap.size w).drew HB.out.sz)).mono ?_;rintro e w1 ⟨rfl,hg,hb1⟩;have HG:=hid hg;have HB1:=hid hb1;clear q0 q1 q2;have q0:=hb1.cell 0;have q1:=hb1.cell 1;have q2:=hb1.cell 2;have f1:=hb1.frozen 1;simp at q0 q1 q2;clear hg hb1))
 all_goals
  go_wp2
  go_ret
  exact ⟨rfl,L3.grown_trans (grown_dr (grown_refl' _ _)) HG.out,HB1.out⟩
set_option maxHeartbeats 1000000 in
theorem bytes_less (pb n k : Nat) (bs : List UInt8) (a : Option Addr) (cap : Nat) (w : World) (hb : L3.BX w pb #[.slice a bs.length cap,.int .i64 k,.int .i64 0] 65) (hv : L3.Bs pb w (.slice a bs.length cap) bs) (hk : k ≤ bs.length) (hn : n ≤ 4294967296) (hl : bs.length - k < n) :
  Calls Tryz.prog 81 #[.pointer (some ⟨pb,0,none⟩),.int .i64 n] w fun e w'=>e = .returned (.slice none 0 0) ∧ w.grownBy w' (some pb) ∧ L3.BX w' pb #[.slice a bs.length cap,.int .i64 k,.int .i64 30] 65:=by
 have hlen:=hv.1
 have hz9:=hb.sz
 have HB:=hid hb
 have HV:=hid hv
 have q0:=hb.cell 0
 have q1:=hb.cell 1
 have q2:=hb.cell 2
 simp at q0 q1 q2
 have hsub : IntKind.i64.wrap ((bs.length : Int) - (k : Int)) = (bs.length : Int) - (k : Int):=IntWalk.i64_in _ (by omega)
 have hd : decide ((bs.length : Int) - (k : Int) < (n : Int)) = true:=by simp;omega
 have HF:=hid (fun W (h : L3.BX W pb #[.slice a bs.length cap,.int .i64 k,.int .i64 0] 65)=>fail_k pb (.slice a bs.length cap) k 0 true 30 W h)
 rw [show (if true = true ∧ (0 : Int) = 0 then (30 : Int) else 0) = 30 from if_pos ⟨rfl,rfl⟩] at HF
 clear hb hv hl
 go_enter Tryz.func81,Tryz.ntmps81
 go_wp2_with fail
 go_region_held3 (fun w'=>w'.cell? ⟨pb,0,none⟩ = some (.slice a bs.length cap) ∧ w'.cell? ⟨pb,1,none⟩ = some (.int .i64 k))
  (first|exact ⟨q0,q1⟩|go_keep)
  (first|(go_at_call 36;refine (HF.out _ (HB.out.below (Below.refl w.heap.size w).drew HB.out.sz)).mono ?_;rintro e w1 ⟨rfl,hg,hb1⟩;have HG:=hid hg;have HB1:=hid hb1;clear q0 q1 q2;have q0:=hb1.cell 0;have q1:=hb1.cell 1;have q2:=hb1.cell 2;have f1:=hb1.frozen 1;simp at q0 q1 q2;clear hg hb1))
 all_goals
  go_wp2
  go_ret
  exact ⟨rfl,L3.grown_trans (grown_dr (grown_refl' _ _)) HG.out,HB1.out⟩
set_option maxHeartbeats 1000000 in
theorem bytes_ok (pb n k m : Nat) (bs : List UInt8) (a : Option Addr) (cap : Nat) (w : World) (hb : L3.BX w pb #[.slice a bs.length cap,.int .i64 k,.int .i64 0] 65) (hv : L3.Bs pb w (.slice a bs.length cap) bs) (hk : k ≤ bs.length) (hn : n ≤ 4294967296) (hl : n ≤ bs.length - k) (hm : k + n = m) :
  Calls Tryz.prog 81 #[.pointer (some ⟨pb,0,none⟩),.int .i64 n] w fun e w'=>∃ v,e = .returned v ∧ L3.Bs pb w' v ((bs.drop k).take n) ∧ w.grownBy w' (some pb) ∧ L3.BX w' pb #[.slice a bs.length cap,.int .i64 m,.int .i64 0] 65:=by
 have hlen:=hv.1
 have hz9:=hb.sz
 have HB:=hid hb
 have HV:=hid hv
 have q0:=hb.cell 0
 have q1:=hb.cell 1
 have q2:=hb.cell 2
 simp at q0 q1 q2
 have hsub : IntKind.i64.wrap ((bs.length : Int) - (k : Int)) = (bs.length : Int) - (k : Int):=IntWalk.i64_in _ (by omega)
 have hd : decide ((bs.length : Int) - (k : Int) < (n : Int)) = false:=by simp;omega
 have hadd : (k : Int) + (n : Int) = (m : Int):=by omega
 have hadd2 : (m : Int) - (n : Int) = (k : Int):=by omega
 have HF:=hid (fun W (h : L3.BX W pb #[.slice a bs.length cap,.int .i64 k,.int .i64 0] 65)=>fail_k pb (.slice a bs.length cap) k 0 false 30 W h)
 rw [show (if false = true ∧ (0 : Int) = 0 then (30 : Int) else 0) = 0 from if_neg (fun h=>by cases h.1)] at HF
 have HL:=hid hl
 have HA:=hid (And.intro hadd hadd2)
 clear hb hv hadd hadd2
 have HM:=hid hm
 clear hm
 go_enter Tryz.func81,Tryz.ntmps81
 go_wp2_with fail
 go_region_held3 (fun w'=>w'.cell? ⟨pb,0,none⟩ = some (.slice a bs.length cap) ∧ w'.cell? ⟨pb,1,none⟩ = some (.int .i64 k))
  (first|exact ⟨q0,q1⟩|go_keep)
  (first|(go_at_call 36;refine (HF.out _ (HB.out.below (Below.refl w.heap.size w).drew HB.out.sz)).mono ?_;rintro e w1 ⟨rfl,hg,hb1⟩;have HG:=hid hg;have HB1:=hid hb1;clear q0 q1 q2;have q0:=hb1.cell 0;have q1:=hb1.cell 1;have q2:=hb1.cell 2;have f1:=hb1.frozen 1;simp at q0 q1 q2;clear hg hb1))
 all_goals
  have hadd:=HA.out.1
  go_wp2_with fail
  have hn2:=HB1.out.set 1 (.int .i64 m)
  have hg2:=L3.set_grown w1 pb 1 (.int .i64 m)
  simp only [List.setIfInBounds_toArray,List.set_cons_zero,List.set_cons_succ] at hn2
  obtain ⟨W2,hW2⟩ : ∃ W,W = w1.setCell ⟨pb,1,none⟩ (.int .i64 m):=⟨_,rfl⟩
  rw [← hW2] at hn2 hg2 ⊢
  clear q0 q1 q2 f1 hW2
  have q0:=hn2.cell 0
  have q1:=hn2.cell 1
  simp only [List.getElem?_toArray,List.getElem?_cons_zero,List.getElem?_cons_succ] at q0 q1
  have hadd2:=HA.out.2
  have HG2:=hid (L3.grown_trans (L3.grown_trans (grown_dr (grown_refl' w _)) HG.out) hg2)
  have HN2:=hid hn2
  have hl:=HL.out
  clear hn2 hg2 hadd
  rcases (bs_grown HV.out hz9 HG2.out).2 with ⟨h0,a',cap',hs9⟩|⟨b,o,cap',hs9,hcap,hlim,hc⟩
  ·obtain ⟨rfl,-,rfl⟩:=Value.slice.inj hs9
   subst h0
   obtain rfl : k = 0:=by simpa using hk
   obtain rfl : n = 0:=by simpa using hl
   obtain rfl : m = 0:=by have:=HM.out;omega
   cases a with
   | none =>
    go_quiet (fail)
    go_wp2
    go_ret
    exact ⟨_,rfl,⟨by simp,.inl ⟨by simp,_,_,rfl⟩⟩,grown_drN HG2.out _,HN2.out⟩
   | some ad =>
    go_quiet (fail)
    go_wp2
    go_ret
    exact ⟨_,rfl,⟨by simp,.inl ⟨by simp,_,_,rfl⟩⟩,grown_drN HG2.out _,HN2.out⟩
  ·obtain ⟨rfl,-,rfl⟩:=Value.slice.inj hs9
   have HC:=hid hc
   have hkm : k ≤ m:=by have:=HM.out;omega
   have hmc : m ≤ cap:=by have:=HM.out;omega
   clear hc hs9
   by_cases hck : k = cap
   ·subst hck
    have hl0 : (bs.drop k).take n = []:=by
     have : n = 0:=by have:=HM.out;omega
     subst this
     rfl
    have hmk : m - k = 0:=by omega
    go_quiet (fail)
    go_wp2
    go_ret
    refine ⟨.slice (some ⟨b,o,none⟩) 0 0,by simp [hmk],?_,grown_drN HG2.out _,HN2.out⟩
    rw [hl0]
    exact ⟨by simp,.inl ⟨rfl,_,_,rfl⟩⟩
   ·have hln : ((bs.drop k).take n).length = m - k:=by rw [List.length_take,List.length_drop];have:=HM.out;omega
    have hck2 : ¬ cap - k = 0:=by omega
    go_quiet (fail)
    go_wp2
    go_ret
    refine ⟨.slice (some ⟨b,o + k,none⟩) (m - k) (cap - k),rfl,?_,grown_drN HG2.out _,HN2.out⟩
    refine ⟨by rw [hln];omega,.inr ⟨b,o + k,_,by rw [hln],by rw [hln];omega,hlim,fun i c hi=>?_⟩⟩
    have h1:=L3.take_at hi
    rw [Nat.add_assoc]
    exact HC.out (k + i) c (L3.drop_at h1)
theorem bytes_any (pb n : Nat) (bs : List UInt8) (s : List UInt8 × Int) (w : World) (hn : n ≤ 4294967296) (hr : RdD w pb bs s) :
  Calls Tryz.prog 81 #[.pointer (some ⟨pb,0,none⟩),.int .i64 n] w (ByPost pb bs s n w):=by
 obtain ⟨v,k,hb,hv,hk,hs⟩:=hr
 obtain ⟨a,cap,rfl⟩:=hv.len
 obtain ⟨l,z⟩:=s
 dsimp only at hb hs
 subst hs
 by_cases hz : z = 0
 ·subst hz
  by_cases hl : n ≤ bs.length - k
  ·refine (bytes_ok pb n k (k + n) bs a cap w hb hv hk hn hl rfl).mono ?_
   rintro e w' ⟨v,rfl,h1,h2,h3⟩
   exact ⟨v,(bs.drop (k + n),0),_,rfl,h1,⟨h2,_,k + n,h3,bs_grown hv hb.sz h2,by omega,rfl⟩,.inl ⟨rfl,by rw [List.length_drop];exact hl,rfl,by rw [List.drop_drop]⟩⟩
  ·refine (bytes_less pb n k bs a cap w hb hv hk hn (by omega)).mono ?_
   rintro e w' ⟨rfl,h2,h3⟩
   exact ⟨_,(bs.drop k,30),[],rfl,⟨by simp,.inl ⟨rfl,_,_,rfl⟩⟩,⟨h2,_,k,h3,bs_grown hv hb.sz h2,hk,rfl⟩,.inr (.inl ⟨rfl,by show (bs.drop k).length < n;rw [List.length_drop];omega,rfl,rfl⟩)⟩
 ·refine (bytes_dead pb n k bs z a cap w hb hv hk hn hz).mono ?_
  rintro e w' ⟨rfl,h2,h3⟩
  exact ⟨_,(bs.drop k,z),[],rfl,⟨by simp,.inl ⟨rfl,_,_,rfl⟩⟩,⟨h2,_,k,h3,bs_grown hv hb.sz h2,hk,rfl⟩,.inr (.inr ⟨hz,rfl,rfl⟩)⟩
set_option maxHeartbeats 1000000 in
theorem num_any (pb n : Nat) (bs : List UInt8) (s : List UInt8 × Int) (w : World) (hn : n = 2 ∨ n = 4) (hr : RdD w pb bs s) :
  Calls Tryz.prog 37 #[.pointer (some ⟨pb,0,none⟩),.int .i64 n] w fun e w'=>∃ x t,e = .returned (.int .i64 x) ∧ 0 ≤ x ∧ x < 4294967296 ∧ (n = 2 → x < 65536) ∧ Cf.Run (Cf.numP n) s x t ∧ StD pb bs t w w':=by
 have HY:=hid (bytes_any pb n bs s w (by omega) hr)
 have HN:=hid hn
 clear hr
 have hn4 : n ≤ 4:=by omega
 clear hn
 go_enter Tryz.func37,Tryz.ntmps37
 go_wp2_with (go_at_call 81;refine HY.out.mono ?_;rintro e w1 ⟨v,t,l,rfl,hv,hst,hcase⟩;obtain ⟨a,cap,rfl⟩:=hv.len;have HV:=hid hv;have HST:=hid hst;have HC:=hid hcase;clear hv hst hcase)
 obtain ⟨ln,hln⟩ : ∃ ln,ln = l.length:=⟨_,rfl⟩
 have HLn:=hid hln
 have hl4 : ln ≤ 4:=by
  rcases HC.out with ⟨-,h1,h2,-⟩|⟨-,-,h2,-⟩|⟨-,h2,-⟩
  ·rw [hln,h2,List.length_take];omega
  ·rw [hln,h2];simp
  ·rw [hln,h2];simp
 rw [← hln]
 clear hln
 go_loopw [6,7] (fun n i wr=>∃ j : Nat,j ≤ ln ∧ i = .int .i64 j ∧ n = .int .i64 (L3.Cp.numI (l.take j)) ∧ wr = w1) (fun _ i _=>ln - (intOf i).toNat)
 case atStart=>exact ⟨0,by omega,rfl,rfl,rfl⟩
 case round =>
  obtain ⟨j,hj,rfl,rfl,rfl⟩:=hrel
  by_cases hlt : j < ln
  ·obtain ⟨c,hc⟩ : ∃ c,l[j]? = some c:=⟨l[j]'(by have:=HLn.out;omega),List.getElem?_eq_getElem (by have:=HLn.out;omega)⟩
   obtain ⟨b,o,ha,hb,hcell⟩:=HV.out.at hc
   have HStep:=hid (L3.numI_step hc)
   obtain ⟨z,hz⟩ : ∃ z,z = L3.Cp.numI (l.take j):=⟨_,rfl⟩
   rw [← hz] at HStep ⊢
   have hor : bits .or .i64 (wrap64 (z * 256)) (c.toNat : Int) = wrap64 (z * 256 + (c.toNat : Int)):=L3.Cp.or_step z c.toNat (L3.Cp.u8_lt c)
   subst ha
   have hji : (j : Int) < ln:=by omega
   clear hc hz
   go_wp2
   go_roundw
   case rel=>exact ⟨j + 1,by omega,by go_num,by rw [HStep.out,← hor,show wrap64 (c.toNat : Int) = (c.toNat : Int) by have:=L3.Cp.u8_lt c;unfold wrap64;omega],by trivial⟩
   case measure=>simp [intOf];omega
  ·obtain rfl : j = ln:=by omega
   go_wp2
   go_ret
   have h4 : l.length ≤ 4:=by have:=HLn.out;omega
   rw [List.take_of_length_le (by have:=HLn.out;omega),L3.numI_small (by omega)]
   refine ⟨L3.Cp.numU l,t,rfl,numU_pos l,numU_four h4,fun h2=>numU_two ?_,?_,HST.out⟩
   ·rcases HC.out with ⟨-,h1,h3,-⟩|⟨-,-,h3,-⟩|⟨-,h3,-⟩
    ·rw [h3,List.length_take];omega
    ·rw [h3];simp
    ·rw [h3];simp
   ·rcases HC.out with ⟨h0,h1,rfl,rfl⟩|⟨h0,h1,rfl,h3⟩|⟨h0,rfl,h3⟩
    ·exact ⟨fun h=>absurd h0 h,fun _=>.inr ⟨by unfold Cf.numP;rw [if_pos h1],rfl⟩⟩
    ·exact ⟨fun h=>absurd h0 h,fun _=>.inl ⟨30,by unfold Cf.numP;rw [if_neg (by omega)],by decide,h3⟩⟩
    ·exact .dead h0 h3
end Go.Proofs.YtnojgiflgmnjlaaGreatDoor
namespace Go.Proofs.YtnojgiflgmnjlaaGreatDoor
open Go.RowKit
set_option maxHeartbeats 2000000 in
theorem decode_any (bs : List UInt8) (v : Value) (w : World) (t1 : L1.Tabs w) (t3 : L3.Tabs w) (hv : L3.Bs w.heap.size w v bs) :
  Calls Tryz.prog 11 #[v] w (DcPost bs w):=by
 have hlen:=hv.1
 have HR0:=hid (fun c er (h : Cf.DcIs bs c er)=>h)
 by_cases h1 : 65536 < bs.length
 ·have d1 : decide (65536 < (bs.length : Int)) = true:=by simp;omega
  have d2 : decide (65536 < bs.length) = true:=by simpa using h1
  have hr : Cf.DcIs bs Cf.K0 3:=by unfold Cf.DcIs;rw [if_pos h1];exact ⟨rfl,rfl⟩
  obtain ⟨a,cap,rfl⟩:=hv.len
  have HR:=hid hr
  clear hv hr h1
  go_enter Tryz.func11,Tryz.ntmps11
  go_wp2
  exact bodyPost_ret (v:=.tuple #[.agg #[.int .i64 0,.int .i64 0,.slice none 0 0,.int .i64 0,.int .i64 0,.int .i64 0,.slice none 0 0,.slice none 0 0],.int .i64 3]) (by simp [results,Tryz.results11,go_sem]) rfl ⟨_,_,_,HR.out,rfl,k0_reads _,fun x h=>(by cases h),⟨by simp [Cf.K0],by simp [Cf.K0],by simp [Cf.K0]⟩,BLw⟩
 ·have d1 : decide (65536 < (bs.length : Int)) = false:=by simp;omega
  have d2 : decide (65536 < bs.length) = false:=by simpa using h1
  have hb0 : Below w.heap.size w ((w.alloc (.cells #[.int .i64 0,.int .i64 0,.slice none 0 0,.int .i64 0,.int .i64 0,.int .i64 0,.slice none 0 0,.slice none 0 0] 26)).alloc (.cells #[v,.int .i64 0] 60)):=BLw
  have hrd : Rdr ((w.alloc (.cells #[.int .i64 0,.int .i64 0,.slice none 0 0,.int .i64 0,.int .i64 0,.int .i64 0,.slice none 0 0,.slice none 0 0] 26)).alloc (.cells #[v,.int .i64 0] 60)) (w.heap.size + 1) 0 bs:=by
   refine ⟨v,?_,(hv.below hb0 (Nat.le_refl _)).mono (by omega)⟩
   have:=L3.BX.new (w.alloc (.cells #[.int .i64 0,.int .i64 0,.slice none 0 0,.int .i64 0,.int .i64 0,.int .i64 0,.slice none 0 0,.slice none 0 0] 26)) #[v,.int .i64 0] 60
   simpa [L3.BX] using this
  have HAt:=hid (attempt_any (w.heap.size + 1) bs _ (t3.below hb0 t3.size) (by have:=t3.size;omega) hrd)
  have HCk:=hid (fun (c : Cf.Cl) (W : World) (h1 : L3.CkIs c.pool 0 ∧ ∀ x ∈ c.pool,L3.I6 x.n) (h2 : c.pool.length ≤ 4097 ∧ c.fs.length ≤ 65535 ∧ c.ms.length ≤ 65535) (h3 : Below w.heap.size w W)=>(⟨t1.below h3 t1.size,t3.below h3 t3.size,by omega,fun x hx=>by have:=pool_small h1.1 x hx;omega⟩ : Ck W c))
  have HE:=hid (fun er (h : Cf.clP bs = .error er)=>(show Cf.DcIs bs Cf.K0 er by unfold Cf.DcIs;rw [if_neg h1,h];exact ⟨rfl,rfl⟩))
  have HO:=hid (fun c r er (h : Cf.clP bs = .ok (c,r)) (h2 : Cf.ClIs c er)=>(show (er = 0 → Cf.DcIs bs c 0) ∧ (er ≠ 0 → Cf.DcIs bs Cf.K0 er) by
   constructor
   ·intro h3;subst h3;unfold Cf.DcIs;rw [if_neg h1,h];exact ⟨0,h2,by rw [if_pos rfl];exact ⟨rfl,rfl⟩⟩
   ·intro h3;unfold Cf.DcIs;rw [if_neg h1,h];exact ⟨er,h2,by rw [if_neg h3];exact ⟨rfl,rfl⟩⟩))
  obtain ⟨a,cap,rfl⟩:=hv.len
  unfold AtPost K0V at HAt
  obtain ⟨X,hX⟩ : ∃ X,X = Cf.clP bs:=⟨_,rfl⟩
  clear hv hrd h1 hb0 hX X
  go_enter Tryz.func11,Tryz.ntmps11
  go_wp2_with (first|(go_at_call 34;refine HAt.out.mono ?_;rintro e w1 (⟨er,HX,rfl,hg⟩|⟨c,r,vs,HX,rfl,hO,hsz,hg⟩);all_goals (have bN:=L3.BX.grown (L3.BX.below (L3.BX.new w #[.int .i64 0,.int .i64 0,.slice none 0 0,.int .i64 0,.int .i64 0,.int .i64 0,.slice none 0 0,.slice none 0 0] 26) ((Below.refl _ _).alloc (Nat.le_refl _) _) (by simp)) hg (fun e=>by (have:=Option.some.inj e;omega));have B1 : Below w.heap.size w w1:=decB hg;have hzN:=bN.sz;(obtain ⟨n0,n1,n2,n3,n4,n5,n6,n7⟩:=bN.cells8;have f0:=bN.frozen 0;have f1:=bN.frozen 1;have f2:=bN.frozen 2;have f3:=bN.frozen 3;have f4:=bN.frozen 4;have f5:=bN.frozen 5;have f6:=bN.frozen 6;have f7:=bN.frozen 7));all_goals (first|(have hne:=cl_err HX;have hd : (er != 0) = true:=(by simpa using hne);clear hne)|(have hcr:=hO.reads ⟨by omega,by omega,by omega⟩;simp only [World.size_alloc] at hO;obtain ⟨pv,fv,mv,rfl,hp,hf,hm⟩:=hcr;have HOw:=hid hO;obtain ⟨pa,pc,rfl⟩:=hp.len;obtain ⟨fa,fc,rfl⟩:=hf.len;obtain ⟨ma2,mc,rfl⟩:=hm.len;have hpl:=cl_pool HX;have HPL:=hid hpl;have HCR:=hid (show ClR w1 _ c from ⟨_,_,_,rfl,hp,hf,hm⟩);have HSZ:=hid hsz;clear hpl hp hf hm hO)))|(go_at_call 35;refine (checked_any c _ _ (HCk.out _ _ HPL.out HSZ.out ?_) (HCR.out.below ((Below.refl w1.heap.size w1).alloc (Nat.le_refl _) _) (Nat.le_refl _))).mono ?_;exact (BLw);rintro e w2 ⟨h2|⟨er,hz,hR,rfl⟩,hb2⟩;all_goals (try (obtain ⟨hR,rfl⟩:=h2));all_goals (have hzb:=hb2.size;simp only [World.size_alloc] at hzb;have hlt2 : w1.heap.size < (w1.alloc (.cells #[.int .i64 c.mi,.int .i64 c.ma,.slice pa c.pool.length pc,.int .i64 c.ac,.int .i64 c.th,.int .i64 c.su,.slice fa c.fs.length fc,.slice ma2 c.ms.length mc] 26)).heap.size:=(by simp);have B12 : Below w1.heap.size w1 w2:=belows ((Below.refl _ _).alloc (Nat.le_refl _) _) hb2 (by simp only [World.size_alloc];omega);have B2:=belows B1 B12 B1.size;have bN:=bN.below B12 bN.sz;(obtain ⟨n0,n1,n2,n3,n4,n5,n6,n7⟩:=bN.cells8;have f0:=bN.frozen 0;have f1:=bN.frozen 1;have f2:=bN.frozen 2;have f3:=bN.frozen 3;have f4:=bN.frozen 4;have f5:=bN.frozen 5;have f6:=bN.frozen 6;have f7:=bN.frozen 7);have HOw2:=hid (HOw.out.below B12 (Nat.le_refl _));have HR:=hid hR;clear hb2 hR);all_goals (try unfold K0V)))
  ·exact bodyPost_ret (v:=.tuple #[.agg #[.int .i64 0,.int .i64 0,.slice none 0 0,.int .i64 0,.int .i64 0,.int .i64 0,.slice none 0 0,.slice none 0 0],.int .i64 er]) (by simp [results,Tryz.results11,go_sem,n0,n1,n2,n3,n4,n5,n6,n7,World.cell?_alloc_past,hzN]) rfl ⟨_,_,_,HE.out er HX,rfl,k0_reads _,fun x h=>(by cases h),⟨by simp [Cf.K0],by simp [Cf.K0],by simp [Cf.K0]⟩,BLw⟩
  ·refine bodyPost_ret (v:=.tuple #[.agg #[.int .i64 c.mi,.int .i64 c.ma,.slice pa c.pool.length pc,.int .i64 c.ac,.int .i64 c.th,.int .i64 c.su,.slice fa c.fs.length fc,.slice ma2 c.ms.length mc],.int .i64 0]) (by simp [results,Tryz.results11,go_sem,n0,n1,n2,n3,n4,n5,n6,n7]) rfl ⟨c,0,_,(HO.out c r 0 HX HR.out).1 rfl,rfl,?_,fun x hx=>⟨pool_small HPL.out.1 x hx,HPL.out.2 x hx⟩,HSZ.out,BLw⟩
   have hs:=HSZ.out
   refine OCl.reads (base:=w.heap.size + 1 + 1) ?_ ⟨by omega,by omega,by omega⟩
   have hlt : w.heap.size < w.heap.size + 1 + 1:=by omega
   (iterate 8 (refine OCl.grown ?_ (L3.set_grown _ _ _ _) hlt))
   exact HOw2.out
  ·exact bodyPost_ret (v:=.tuple #[.agg #[.int .i64 0,.int .i64 0,.slice none 0 0,.int .i64 0,.int .i64 0,.int .i64 0,.slice none 0 0,.slice none 0 0],.int .i64 er]) (by simp [results,Tryz.results11,go_sem,n0,n1,n2,n3,n4,n5,n6,n7]) rfl ⟨_,_,_,(HO.out c r er HX HR.out).2 hz,rfl,k0_reads _,fun x h=>(by cases h),⟨by simp [Cf.K0],by simp [Cf.K0],by simp [Cf.K0]⟩,BLw⟩
end Go.Proofs.YtnojgiflgmnjlaaGreatDoor
namespace Go.Proofs.YtnojgiflgmnjlaaGreatDoor
open Go.RowKit
def PoolSz (l : List L3.Cp.C) : Prop:=l.length * 48 ≤ 140737488355328 ∧ ∀ x ∈ l,x.s.size ≤ 140737488355328
def Kx (lo pb : Nat) (w W : World) : Prop:=w.heap.size ≤ W.heap.size ∧ ∀ i,i < w.heap.size → i < lo ∨ pb < i → W.heap[i]? = w.heap[i]?
theorem Kx.refl (lo pb : Nat) (w : World) : Kx lo pb w w:=⟨Nat.le_refl _,fun _ _ _=>rfl⟩
theorem Kx.trans {lo pb : Nat} {a b c : World} (h : Kx lo pb a b) (k : Kx lo pb b c) : Kx lo pb a c:=⟨Nat.le_trans h.1 k.1,fun i hi ho=>(k.2 i (Nat.lt_of_lt_of_le hi h.1) ho).trans (h.2 i hi ho)⟩
theorem Kx.grown {lo pb r : Nat} {a b : World} (h : a.grownBy b (some r)) (h1 : lo ≤ r) (h2 : r ≤ pb) : Kx lo pb a b:=⟨h.size,fun i hi ho=>h.block i hi (fun e=>by have:=Option.some.inj e;omega)⟩
theorem Kx.below {lo pb : Nat} {a b : World} (h : Below a.heap.size a b) : Kx lo pb a b:=⟨h.size,fun i hi _=>h.block i hi⟩
structure Bd (w : World) (lo pb : Nat) (l : List L3.Cp.C) (er : Int) : Prop where
 box : ∃ v,w.heap[pb]? = some (.cells #[v,.int .i64 er] 95 (0,0)) ∧ ∀ W,Kx lo pb w W → Kit.IsS 5 W v l.length (l.flatMap L3.cL)
 sz : PoolSz l
 lo : lo ≤ pb
theorem Bd.lt {w : World} {lo pb : Nat} {l : List L3.Cp.C} {er : Int} (h : Bd w lo pb l er) : pb < w.heap.size:=by
 obtain ⟨v,h1,-⟩:=h.box
 exact (Array.getElem?_eq_some_iff.1 h1).1
theorem Bd.keep {w w' : World} {lo pb : Nat} {l : List L3.Cp.C} {er : Int} (h : Bd w lo pb l er) (hb : Below (pb + 1) w w') (hg : w.grownBy w' (some pb)) : Bd w' lo pb l er:=by
 obtain ⟨v,h1,h2⟩:=h.box
 exact ⟨⟨v,(hb.block pb (Nat.lt_succ_self pb)).trans h1,fun W k=>h2 W ((Kx.grown hg h.lo (Nat.le_refl _)).trans k)⟩,h.sz,h.lo⟩
theorem Bd.below {w w' : World} {lo pb : Nat} {l : List L3.Cp.C} {er : Int} (h : Bd w lo pb l er) (hb : Below w.heap.size w w') : Bd w' lo pb l er:=by
 obtain ⟨v,h1,h2⟩:=h.box
 exact ⟨⟨v,(hb.block pb h.lt).trans h1,fun W k=>h2 W ((Kx.below hb).trans k)⟩,h.sz,h.lo⟩
def AdS (l : List L3.Cp.C) (er : Int) (c : L3.Cp.C) (m : List L3.Cp.C) (i : Nat) (e2 : Int) : Prop:=(er ≠ 0 ∧ m = l ∧ i = 0 ∧ e2 = er) ∨ (er = 0 ∧ L3.AdIs l c m i e2)
theorem ad_sz {l : List L3.Cp.C} {c : L3.Cp.C} {m : List L3.Cp.C} {i : Nat} {e2 : Int} (h : L3.AdIs l c m i e2) (hm : e2 = 0 ∨ m = []) : PoolSz m:=by
 rcases hm with rfl|rfl
 ·obtain ⟨-,-,-,hc,-⟩:=L3.ad_good h
  have h1:=(L3.ck_all.1 hc).1
  exact ⟨by omega,fun x hx=>by have:=pool_small hc x hx;omega⟩
 ·exact ⟨by simp,fun x hx=>by cases hx⟩
theorem ad_nil {l : List L3.Cp.C} {c : L3.Cp.C} {m : List L3.Cp.C} {i : Nat} {er : Int} (h : L3.AdIs l c m i er) : er = 0 ∨ m = []:=by
 rcases h with ⟨-,-,h,-⟩|⟨-,⟨-,-,h,-⟩|⟨-,⟨-,h,-⟩|⟨-,⟨-,-,h,-⟩|⟨-,h,-⟩⟩⟩⟩
 ·exact .inr h
 ·exact .inr h
 ·exact .inl h
 ·exact .inr h
 ·exact .inl h
theorem two_set {w : World} {pb : Nat} {v x : Value} (h : w.heap[pb]? = some (.cells #[v,x] 95 (0,0))) (u y : Value) : ((w.setCell ⟨pb,0,none⟩ u).setCell ⟨pb,1,none⟩ y).heap[pb]? = some (.cells #[u,y] 95 (0,0)):=by
 have h1 : (w.setCell ⟨pb,0,none⟩ u).heap[pb]? = some (.cells #[u,x] 95 (0,0)):=by
  obtain ⟨hlt,hk⟩:=Array.getElem?_eq_some_iff.1 h
  show (w.heap.modify pb _)[pb]? = _
  rw [Array.getElem?_eq_getElem (by rw [Array.size_modify];exact hlt),Array.getElem_modify_self,hk]
  rfl
 obtain ⟨hlt,hk⟩:=Array.getElem?_eq_some_iff.1 h1
 show ((w.setCell ⟨pb,0,none⟩ u).heap.modify pb _)[pb]? = _
 rw [Array.getElem?_eq_getElem (by rw [Array.size_modify];exact hlt),Array.getElem_modify_self,hk]
 rfl
def BdPost (lo pb : Nat) (l : List L3.Cp.C) (er : Int) (c : L3.Cp.C) (w : World) (e : Ending) (w' : World) : Prop:=∃ m i e2,AdS l er c m i e2 ∧ e = .returned (.int .i64 (i : Nat)) ∧ w.grownBy w' (some pb) ∧ Bd w' lo pb m e2
set_option maxHeartbeats 1000000 in
theorem badd_any (lo pb : Nat) (l : List L3.Cp.C) (er : Int) (c : L3.Cp.C) (w : World) (ht : L3.Tabs w) (h : Bd w lo pb l er) (hc : c.s.size ≤ 140737488355328) :
  Calls Tryz.prog 124 #[.pointer (some ⟨pb,0,none⟩),.agg (L3.cC c)] w (BdPost lo pb l er c w):=by
 have hps:=h.lt
 have hB:=h
 obtain ⟨⟨v,hbx,hst⟩,hsz,hlo⟩:=h
 have k0 : w.cell? ⟨pb,0,none⟩ = some v:=by simp [World.cell?,hbx]
 have k1 : w.cell? ⟨pb,1,none⟩ = some (.int .i64 er):=by simp [World.cell?,hbx]
 have HBd:=hid hB
 have HAd:=hid (fun W (k : Below w.heap.size w W)=>L3.add_any l c v W (ht.below k ht.size) (hst W (Kx.below k)) hsz.2 hc hsz.1)
 have HBx:=hid hbx
 unfold BdPost L3.cC
 obtain ⟨ct,cs,cn,ca,cb⟩:=c
 unfold L3.cC at HAd
 dsimp only at HAd ⊢
 obtain ⟨a,cap,rfl⟩:=(hst w (Kx.refl _ _ _)).len
 clear hB hbx hst hsz ht hc
 by_cases he : er = 0
 ·subst he
  go_enter Tryz.func124,Tryz.ntmps124
  go_wp2
  have bX:=L3.BX.new w #[.int .i64 ct,.string cs,.int .i64 cn,.int .i64 ca,.int .i64 cb] 56
  have B0 : Below w.heap.size w (w.alloc (.cells #[.int .i64 ct,.string cs,.int .i64 cn,.int .i64 ca,.int .i64 cb] 56)):=BLw
  obtain ⟨W,hW⟩ : ∃ W,W = w.alloc (.cells #[.int .i64 ct,.string cs,.int .i64 cn,.int .i64 ca,.int .i64 cb] 56):=⟨_,rfl⟩
  rw [← hW] at bX B0 ⊢
  have c0:=bX.cell 0
  have c1:=bX.cell 1
  have c2:=bX.cell 2
  have c3:=bX.cell 3
  have c4:=bX.cell 4
  simp at c0 c1 c2 c3 c4
  have g0:=(B0.cell (p:=⟨pb,0,none⟩) (by simpa using hps)).trans k0
  have cfA:=fun (u v : Value) (w : World)=>(show (callFunc 163 #[u,v]).run Tryz.prog w = .ok (.enter 163 #[u,v]) w by kernel_rfl)
  clear hW bX k0 k1
  go_region_law (refine Kit.step_call2 rfl 163 (.tmp 17) (.tmp 18) 23 56 rfl _ _ rfl rfl (cfA _ _ _) _ (HAd.out _ ?_) ?_;(first|exact B0|exact BLw);rintro e w9 ⟨m,i,e2,mv,hAI,rfl,hO,hbF⟩;refine ⟨_,rfl,?_⟩;have B9 : Below w.heap.size w w9:=(by first|exact belows B0 hbF B0.size|exact belows B0 (below_undrew hbF) B0.size);have hO9:=hO;have bx9:=(B9.block pb hps).trans HBx.out;have y0 : w9.frozen? ⟨pb,0,none⟩ = false:=(by simp [World.frozen?,bx9]);have y1 : w9.frozen? ⟨pb,1,none⟩ = false:=(by simp [World.frozen?,bx9]);have z0 : w9.cell? ⟨pb,0,none⟩ = some (.slice a l.length cap):=(by simp [World.cell?,bx9]);have z1 : w9.cell? ⟨pb,1,none⟩ = some (.int .i64 0):=(by simp [World.cell?,bx9]);have HO:=hid (L3.own_mono (base':=pb + 1) hO (Nat.succ_le_of_lt (Nat.lt_of_lt_of_le hps B0.size)));have HX9:=hid bx9;have HAI:=hid hAI;obtain ⟨ma,mc,rfl⟩:=L3.own_form hO;clear hO hO9 bx9 hAI hbF)
  all_goals go_wp2
  all_goals go_ret
  all_goals
   have hms:=ad_sz HAI.out (ad_nil HAI.out)
   refine ⟨m,i,e2,.inr ⟨rfl,HAI.out⟩,rfl,L3.grown_trans (L3.grown_trans (L3.grown_of_below B9 _) (L3.set_grown _ pb 0 _)) (L3.set_grown _ pb 1 _),⟨⟨_,two_set HX9.out _ _,fun W' k=>Kit.isS_of_owns (L3.owns_at (Kit.owns_grown (Kit.owns_grown HO.out (L3.set_grown _ pb 0 _) (Nat.lt_succ_self pb)) (L3.set_grown _ pb 1 _) (Nat.lt_succ_self pb)) (fun i h1 h2=>k.2 i h2 (.inr (by omega)))) (by have:=hms.1;omega)⟩,hms,hlo⟩⟩
 ·have hd : (er != 0) = true:=by simpa using he
  have HZ:=hid he
  clear he
  go_enter Tryz.func124,Tryz.ntmps124
  go_wp2
  go_ret
  exact ⟨l,0,er,.inl ⟨HZ.out,rfl,rfl,rfl⟩,rfl,GRw,HBd.out.below BLw⟩
theorem btext_any (lo pb : Nat) (l : List L3.Cp.C) (er : Int) (s : ByteArray) (w : World) (ht : L3.Tabs w) (h : Bd w lo pb l er) (hc : s.size ≤ 140737488355328) :
  Calls Tryz.prog 69 #[.pointer (some ⟨pb,0,none⟩),.string s] w (BdPost lo pb l er ⟨1,s,0,0,0⟩ w):=by
 have HA:=hid (fun W (k : Below w.heap.size w W)=>badd_any lo pb l er ⟨1,s,0,0,0⟩ W (ht.below k ht.size) (h.below k) hc)
 have HU:=hid (fun W=>utf8_any s W)
 unfold BdPost at HA ⊢
 clear ht h hc
 go_enter Tryz.func69,Tryz.ntmps69
 go_wp2_with (first
  | (go_at_call 94;refine (HU.out _).mono ?_;rintro e w1 ⟨rfl,hb1⟩)
  | (go_at_call 124;refine (HA.out _ hb1).mono ?_;rintro e w2 ⟨m,i,e2,hS,rfl,hg,hB⟩))
 go_ret
 exact ⟨m,i,e2,hS,rfl,L3.grown_trans (L3.grown_of_below hb1 _) hg,hB⟩
def BcPost (lo pb : Nat) (l : List L3.Cp.C) (er : Int) (s : ByteArray) (w : World) (e : Ending) (w' : World) : Prop:=∃ m i e2 m2 j e3,AdS l er ⟨1,s,0,0,0⟩ m i e2 ∧ AdS m e2 ⟨7,⟨#[]⟩,0,(i : Nat),0⟩ m2 j e3 ∧ e = .returned (.int .i64 (j : Nat)) ∧ w.grownBy w' (some pb) ∧ Bd w' lo pb m2 e3
theorem bclass_any (lo pb : Nat) (l : List L3.Cp.C) (er : Int) (s : ByteArray) (w : World) (ht : L3.Tabs w) (hp1 : 1 ≤ pb) (h : Bd w lo pb l er) (hc : s.size ≤ 140737488355328) :
  Calls Tryz.prog 70 #[.pointer (some ⟨pb,0,none⟩),.string s] w (BcPost lo pb l er s w):=by
 have HT:=hid (btext_any lo pb l er s w ht h hc)
 have HA:=hid (fun m e2 i W (k : w.grownBy W (some pb)) (hB : Bd W lo pb m e2)=>badd_any lo pb m e2 ⟨7,⟨#[]⟩,0,i,0⟩ W (tabs_grown ht hp1 k) hB (by show (⟨#[]⟩ : ByteArray).size ≤ _;decide))
 unfold BdPost at HT HA
 unfold L3.cC at HA
 unfold BcPost
 clear ht h hc hp1
 go_enter Tryz.func70,Tryz.ntmps70
 go_wp2_with (first
  | (go_at_call 69;refine HT.out.mono ?_;rintro e w1 ⟨m,i,e2,hS,rfl,hg,hB⟩)
  | (go_at_call 124;refine (HA.out _ _ _ _ hg hB).mono ?_;rintro e w2 ⟨m2,j,e3,hS2,rfl,hg2,hB2⟩))
 go_ret
 exact ⟨m,i,e2,m2,j,e3,hS,hS2,rfl,L3.grown_trans hg hg2,hB2⟩
end Go.Proofs.YtnojgiflgmnjlaaGreatDoor
namespace Go.Proofs.YtnojgiflgmnjlaaGreatDoor
open Go.RowKit
def NmAt (ss : List ByteArray) (k : Nat) (er : Int) : Prop:=∃ s,ss[k]? = some s ∧ er = L2.nameE (L2.Ds.bl s)
set_option maxHeartbeats 2000000 in
theorem firstS_any (ss : List ByteArray) (v : Value) (w : World) (hv : Kit.IsS 1 w v ss.length (ss.map fun s=>Value.string s)) :
  Calls Tryz.prog 67 #[v,.func (.func 68) #[] #[]] w fun e w'=>∃ er,Cf.FstR (NmAt ss) ss.length er ∧ e = .returned (.int .i64 er) ∧ Below w.heap.size w w':=by
 have HA:=hid (fun s W=>L2.className_any s W)
 have HV:=hid (fun W (k : Below w.heap.size w W)=>hv.below k (Nat.le_refl _))
 obtain ⟨a,cap,rfl⟩:=hv.len
 have HL:=hid hv.2.1
 clear hv
 go_enter Tryz.func67,Tryz.ntmps67
 go_wp2
 go_loopw [10] (fun i wr=>∃ k : Nat,k ≤ ss.length ∧ i = .int .i64 k ∧ Below w.heap.size w wr ∧ ∀ j,j < k → NmAt ss j 0) (fun i _=>ss.length - (intOf i).toNat)
 case atStart=>exact ⟨0,by omega,rfl,BLw,fun j hj=>by omega⟩
 case round =>
  obtain ⟨k,hk,rfl,hJ,hall⟩:=hrel
  have HAll:=hid hall
  have hsz:=HL.out
  have hzw:=hJ.size
  by_cases hlt : k < ss.length
  ·obtain ⟨s,hx⟩ : ∃ x,ss[k]? = some x:=⟨ss[k],List.getElem?_eq_getElem hlt⟩
   obtain ⟨b,o,cap',hv2,-,hbb,hc⟩:=(HV.out wr hJ).some (by omega)
   obtain ⟨rfl,-,rfl⟩:=Value.slice.inj hv2
   have c0:=hc k (.string s) (by rw [List.getElem?_map,hx];rfl)
   have hki : (k : Int) < (ss.length : Int):=by omega
   have HR0:=hid (show NmAt ss k (L2.nameE (L2.Ds.bl s)) from ⟨_,hx,rfl⟩)
   have HA1:=HA.out s
   obtain ⟨er,her⟩ : ∃ er,er = L2.nameE (L2.Ds.bl s):=⟨_,rfl⟩
   rw [← her] at HR0 HA1
   have HA2:=hid HA1
   clear hx hv2 hall HA1 her hc
   by_cases hz : er = 0
   ·subst hz
    go_wp2_with (go_at_call 68;refine (HA2.out _).mono ?_;rintro e W1 ⟨rfl,hb1⟩;have B1:=belows (B:=w.heap.size) (a:=w) BLw hb1 (by omega))
    go_roundw
    case rel=>exact ⟨k + 1,by omega,by go_num,B1,fun j hj=>by
     by_cases e : j = k
     ·subst e;exact HR0.out
     ·exact HAll.out j (by omega)⟩
    case measure=>simp [intOf];omega
   ·have hd : (er != 0) = true:=by simpa using hz
    have HZ:=hid hz
    clear hz
    go_wp2_with (go_at_call 68;refine (HA2.out _).mono ?_;rintro e W1 ⟨rfl,hb1⟩;have B1:=belows (B:=w.heap.size) (a:=w) BLw hb1 (by omega))
    go_ret
    exact ⟨_,Cf.FstR.at HAll.out hlt HR0.out HZ.out,rfl,B1⟩
  ·obtain rfl : k = ss.length:=by omega
   have hb:=hJ
   clear hall
   go_wp2
   go_ret
   exact ⟨0,Cf.FstR.all HAll.out,rfl,hb⟩
theorem two_names {a b : ByteArray} {er : Int} (h : Cf.FstR (NmAt [a,b]) 2 er) : er = if L2.nameE (L2.Ds.bl a) ≠ 0 then L2.nameE (L2.Ds.bl a) else L2.nameE (L2.Ds.bl b):=by
 rcases h with ⟨rfl,h⟩|⟨h0,k,hk,⟨i,hi,rfl⟩,h2⟩
 ·obtain ⟨i,hi,h1⟩:=h 0 (by omega)
  obtain ⟨j,hj,h2⟩:=h 1 (by omega)
  simp at hi hj
  subst hi hj
  rw [if_neg (by rw [← h1];decide),← h2]
 ·match k,hk with
  | 0,_ =>
   simp at hi
   subst hi
   rw [if_pos h0]
  | 1,_ =>
   simp at hi
   subst hi
   obtain ⟨j,hj,h1⟩:=h2 0 (by omega)
   simp at hj
   subst hj
   rw [if_neg (by rw [← h1];decide)]
def NwIs (a b : ByteArray) (c : Cf.Cl) (er : Int) : Prop :=
 if L2.nameE (L2.Ds.bl a) ≠ 0 then c = Cf.K0 ∧ er = L2.nameE (L2.Ds.bl a) else if L2.nameE (L2.Ds.bl b) ≠ 0 then c = Cf.K0 ∧ er = L2.nameE (L2.Ds.bl b) else
 ∃ m0 i0 e0 m1 i1 e1 m2 i2 e2 m3 i3 e3 m4 i4 e4,AdS [] 0 Cf.codeC m0 i0 e0 ∧ AdS m0 e0 ⟨1,a,0,0,0⟩ m1 i1 e1 ∧ AdS m1 e1 ⟨7,⟨#[]⟩,0,(i1 : Nat),0⟩ m2 i2 e2 ∧ AdS m2 e2 ⟨1,b,0,0,0⟩ m3 i3 e3 ∧ AdS m3 e3 ⟨7,⟨#[]⟩,0,(i3 : Nat),0⟩ m4 i4 e4 ∧
  (if e4 ≠ 0 then c = Cf.K0 ∧ er = e4 else c = ⟨0,52,m4,33,i2,i4,[],[]⟩ ∧ er = 0)
end Go.Proofs.YtnojgiflgmnjlaaGreatDoor
namespace Go.Proofs.YtnojgiflgmnjlaaGreatDoor
open Go.RowKit
theorem bd_new (w : World) (lo : Nat) (h : lo ≤ w.heap.size) : Bd (w.alloc (.cells #[.slice none 0 0,.int .i64 0] 95)) lo w.heap.size [] 0 :=
 ⟨⟨.slice none 0 0,L3.BX.new w _ _,fun W _=>⟨rfl,by simp,.inl ⟨rfl,none,0,rfl⟩⟩⟩,⟨by simp,fun x hx=>by cases hx⟩,h⟩
theorem bd_cells {w : World} {lo pb : Nat} {l : List L3.Cp.C} {er : Int} (h : Bd w lo pb l er) : ∃ a cap,w.cell? ⟨pb,0,none⟩ = some (.slice a l.length cap) ∧ w.cell? ⟨pb,1,none⟩ = some (.int .i64 er) ∧ ∀ W,Kx lo pb w W → Kit.IsS 5 W (.slice a l.length cap) l.length (l.flatMap L3.cL):=by
 obtain ⟨v,h1,h2⟩:=h.box
 obtain ⟨a,cap,rfl⟩:=(h2 w (Kx.refl _ _ _)).len
 exact ⟨a,cap,by simp [World.cell?,h1],by simp [World.cell?,h1],h2⟩
theorem Kx.alloc {lo pb : Nat} {a b : World} (h : Kx lo pb a b) (o : Obj) : Kx lo pb a (b.alloc o):=h.trans (Kx.below ((Below.refl _ _).alloc (Nat.le_refl _) _))
theorem Kx.set {lo pb r j : Nat} {a b : World} (h : Kx lo pb a b) (hr : lo ≤ r ∧ r ≤ pb) (u : Value) : Kx lo pb a (b.setCell ⟨r,j,none⟩ u):=h.trans (Kx.grown (L3.set_grown b r j u) hr.1 hr.2)
theorem nil_ms (w : World) : MsR w (.slice none 0 0) []:=⟨[],trivial,rfl,by simp,.inl ⟨rfl,none,0,rfl⟩⟩
theorem nwB {n : Nat} {w a b : World} {r : Nat} (h : Below n w a) (hg : a.grownBy b (some r)) (hr : n ≤ r ∧ n ≤ a.heap.size) : Below n w b:=h.grown hg hr.2 (fun k e=>by cases e;exact hr.1)
theorem name_len {s : ByteArray} (h : L2.nameE (L2.Ds.bl s) = 0) : s.size ≤ 140737488355328:=by
 unfold L2.nameE at h
 split at h
 ·cases h
 ·rename_i h1
  have : (L2.Ds.bl s).length = s.size:=L2.bl_len s
  omega
def NwPost (a b : ByteArray) (w : World) (e : Ending) (w' : World) : Prop :=
 ∃ c er vs,NwIs a b c er ∧ e = .returned (.tuple #[.agg vs,.int .i64 er]) ∧ ClR w' vs c ∧ PoolSz c.pool ∧ Below w.heap.size w w'
set_option maxHeartbeats 2000000 in
theorem new_any (a b : ByteArray) (w : World) (ht : L3.Tabs w) : Calls Tryz.prog 30 #[.string a,.string b] w (NwPost a b w):=by
 have HT:=hid ht
 have HFs:=hid (firstS_any [a,b] (.slice (some ⟨w.heap.size + 1,0,none⟩) 2 2) ((w.alloc (.cells #[.int .i64 0,.int .i64 0,.slice none 0 0,.int .i64 0,.int .i64 0,.int .i64 0,.slice none 0 0,.slice none 0 0] 26)).alloc (.cells #[.string a,.string b] 9))
  ⟨rfl,by simp,.inr ⟨w.heap.size + 1,0,2,rfl,Nat.le_refl _,by simp,fun i u hu=>by
   match i,hu with
   | 0,hu=>simp at hu;subst hu;simp [go_sem]
   | 1,hu=>simp at hu;subst hu;simp [go_sem]⟩⟩)
 clear ht
 by_cases hn : L2.nameE (L2.Ds.bl a) = 0 ∧ L2.nameE (L2.Ds.bl b) = 0
 ·have HLa:=hid (name_len hn.1)
  have HLb:=hid (name_len hn.2)
  have HNn:=hid hn
  clear hn
  go_enter Tryz.func30,Tryz.ntmps30
  go_wp2_with (first|(go_at_call 67;refine HFs.out.mono ?_;rintro e w1 ⟨er,hfs,rfl,hb1⟩;have HFS:=hid (two_names hfs);obtain ⟨bN,bSl,hzN1,B1⟩:=boxes2 hb1;have hzN : w.heap.size < w1.heap.size:=(by omega);(obtain ⟨n0,n1,n2,n3,n4,n5,n6,n7⟩:=bN.cells8;have f0:=bN.frozen 0;have f1:=bN.frozen 1;have f2:=bN.frozen 2;have f3:=bN.frozen 3;have f4:=bN.frozen 4;have f5:=bN.frozen 5;have f6:=bN.frozen 6;have f7:=bN.frozen 7);clear hb1 bSl hfs;by_cases hz : er = 0;all_goals (first|subst hz|(have hd : (er != 0) = true:=(by simpa using hz);have HZ:=hid hz;clear hz)))|(go_at_call 69;go_loud (have hB0:=bd_new w1 w.heap.size (by omega);have Ba : Below w.heap.size w (w1.alloc (.cells #[.slice none 0 0,.int .i64 0] 95)):=(B1.alloc (by omega) _);refine (btext_any w.heap.size w1.heap.size [] 0 Cf.codeS _ (HT.out.below Ba HT.out.size) hB0 (by decide)).mono ?_;rintro e W ⟨m0,i0,e0,hS0,rfl,hg,hB⟩;have HS0:=hid hS0;have bN:=L3.BX.grown (L3.BX.below bN ((Below.refl _ _).alloc (Nat.le_refl _) (.cells #[.slice none 0 0,.int .i64 0] 95)) bN.sz) hg (fun e=>by (have:=Option.some.inj e;omega));have B2 : Below w.heap.size w W:=nwB Ba hg (by (simp only [World.size_alloc]);omega);have HB:=hid hB;have hzW:=hB.lt;(obtain ⟨n0,n1,n2,n3,n4,n5,n6,n7⟩:=bN.cells8;have f0:=bN.frozen 0;have f1:=bN.frozen 1;have f2:=bN.frozen 2;have f3:=bN.frozen 3;have f4:=bN.frozen 4;have f5:=bN.frozen 5;have f6:=bN.frozen 6;have f7:=bN.frozen 7);clear hB hg hS0 hB0))|(go_at_call 70;have hT2:=HT.out.below B2 HT.out.size;have hz1 : 1 ≤ w1.heap.size:=(by have:=HT.out.size;omega);(first|(have _g:=i2;refine (bclass_any w.heap.size w1.heap.size m2 e2 b _ hT2 hz1 HB.out HLb.out).mono ?_;rintro e W ⟨m3,i3,e3,m4,i4,e4,hS3,hS4,rfl,hg,hB⟩;have HS3:=hid hS3;have HS4:=hid hS4;clear hS3 hS4)|(refine (bclass_any w.heap.size w1.heap.size m0 e0 a _ hT2 hz1 HB.out HLa.out).mono ?_;rintro e W ⟨m1,i1,e1,m2,i2,e2,hS1,hS2,rfl,hg,hB⟩;have HS1:=hid hS1;have HS2:=hid hS2;clear hS1 hS2));have bN:=L3.BX.grown bN hg (fun e=>by (have:=Option.some.inj e;omega));have hzq:=B2.size;have B2 : Below w.heap.size w W:=nwB B2 hg (by omega);have HB:=hid hB;have hzW:=hB.lt;(obtain ⟨n0,n1,n2,n3,n4,n5,n6,n7⟩:=bN.cells8;have f0:=bN.frozen 0;have f1:=bN.frozen 1;have f2:=bN.frozen 2;have f3:=bN.frozen 3;have f4:=bN.frozen 4;have f5:=bN.frozen 5;have f6:=bN.frozen 6;have f7:=bN.frozen 7);obtain ⟨ba,bc,hb0,hb1,hst⟩:=bd_cells HB.out;have HSt:=hid hst;clear hB hg hT2 hz1 hst;have hzA : w.heap.size < W.heap.size:=(by omega);(try (have _g:=i4;by_cases hy : e4 = 0;all_goals (first|subst hy|(have hd4 : (e4 != 0) = true:=(by simpa using hy);have HY:=hid hy;clear hy))))))
  ·have hn:=HNn.out
   refine bodyPost_ret (v:=.tuple #[.agg #[.int .i64 0,.int .i64 52,.slice ba m4.length bc,.int .i64 33,.int .i64 (i2 : Nat),.int .i64 (i4 : Nat),.slice none 0 0,.slice none 0 0],.int .i64 0]) (by simp [results,Tryz.results30,go_sem,n0,n1,n2,n3,n4,n5,n6,n7,World.cell?_alloc_past,hzA]) rfl ⟨⟨0,52,m4,33,i2,i4,[],[]⟩,0,_,?_,rfl,⟨_,_,_,rfl,?_,nil_ms _,nil_ms _⟩,HB.out.sz,BLw⟩
   ·unfold NwIs
    rw [if_neg (by rw [hn.1];decide),if_neg (by rw [hn.2];decide)]
    exact ⟨m0,i0,e0,m1,i1,e1,m2,i2,e2,m3,i3,e3,m4,i4,0,HS0.out,HS1.out,HS2.out,HS3.out,HS4.out,by rw [if_neg (by decide)];exact ⟨rfl,rfl⟩⟩
   ·refine HSt.out _ ?_
    have hr : w.heap.size ≤ w.heap.size ∧ w.heap.size ≤ w1.heap.size:=⟨Nat.le_refl _,by omega⟩
    first
     | (refine Kx.alloc ?_ _;(iterate 8 (refine Kx.set ?_ hr _));exact Kx.refl _ _ _)
     | ((iterate 8 (refine Kx.set ?_ hr _));exact Kx.alloc (Kx.refl _ _ _) _)
  ·have bN2:=bN.below (w':=W.alloc (.cells #[.int .i64 0,.int .i64 52,.slice none 0 0,.int .i64 33,.int .i64 (i2 : Nat),.int .i64 (i4 : Nat),.slice none 0 0,.slice none 0 0] 26)) ((Below.refl _ _).alloc (Nat.le_refl _) _) bN.sz
   have B3 : Below w.heap.size w (W.alloc (.cells #[.int .i64 0,.int .i64 52,.slice none 0 0,.int .i64 33,.int .i64 (i2 : Nat),.int .i64 (i4 : Nat),.slice none 0 0,.slice none 0 0] 26)):=B2.alloc (by omega) _
   have hb2:=(((Below.refl W.heap.size W).alloc (Nat.le_refl _) (.cells #[.int .i64 0,.int .i64 52,.slice none 0 0,.int .i64 33,.int .i64 (i2 : Nat),.int .i64 (i4 : Nat),.slice none 0 0,.slice none 0 0] 26)).cell (p:=⟨w1.heap.size,1,none⟩) (by simpa using hzW)).trans hb1
   obtain ⟨W6,hW6⟩ : ∃ W6,W6 = W.alloc (.cells #[.int .i64 0,.int .i64 52,.slice none 0 0,.int .i64 33,.int .i64 (i2 : Nat),.int .i64 (i4 : Nat),.slice none 0 0,.slice none 0 0] 26):=⟨_,rfl⟩
   rw [← hW6] at bN2 B3 hb2 ⊢
   have bN:=bN2
   (obtain ⟨n0,n1,n2,n3,n4,n5,n6,n7⟩:=bN.cells8;have f0:=bN.frozen 0;have f1:=bN.frozen 1;have f2:=bN.frozen 2;have f3:=bN.frozen 3;have f4:=bN.frozen 4;have f5:=bN.frozen 5;have f6:=bN.frozen 6;have f7:=bN.frozen 7)
   have hnw : ¬ w.heap.size = w1.heap.size:=by omega
   clear hW6 hb0 hb1
   go_region
   all_goals go_wp2
   all_goals
    have hn:=HNn.out
    refine bodyPost_ret (v:=.tuple #[.agg #[.int .i64 0,.int .i64 0,.slice none 0 0,.int .i64 0,.int .i64 0,.int .i64 0,.slice none 0 0,.slice none 0 0],.int .i64 e4]) (by simp [results,Tryz.results30,go_sem,n0,n1,n2,n3,n4,n5,n6,n7]) rfl ⟨_,e4,_,?_,rfl,k0_reads _,⟨by simp [Cf.K0],fun x hx=>by cases hx⟩,BLw⟩
    unfold NwIs
    rw [if_neg (by rw [hn.1];decide),if_neg (by rw [hn.2];decide)]
    exact ⟨m0,i0,e0,m1,i1,e1,m2,i2,e2,m3,i3,e3,m4,i4,e4,HS0.out,HS1.out,HS2.out,HS3.out,HS4.out,by rw [if_pos HY.out];exact ⟨rfl,rfl⟩⟩
  ·have hn:=HNn.out
   have h9:=HFS.out
   rw [if_neg (by rw [hn.1];decide)] at h9
   exact absurd (h9.trans hn.2) HZ.out
 ·have HNn:=hid hn
  clear hn
  go_enter Tryz.func30,Tryz.ntmps30
  go_wp2_with (go_at_call 67;refine HFs.out.mono ?_;rintro e w1 ⟨er,hfs,rfl,hb1⟩;have hfs:=two_names hfs;have hz : er ≠ 0:=(by intro e0;rw [e0] at hfs;by_cases ha : L2.nameE (L2.Ds.bl a) = 0;(·rw [if_neg (by rw [ha];decide)] at hfs;exact HNn.out ⟨ha,hfs.symm⟩);(·rw [if_pos ha] at hfs;exact ha hfs.symm));have HFS:=hid hfs;obtain ⟨bN,bSl,hzN1,B1⟩:=boxes2 hb1;have hzN : w.heap.size < w1.heap.size:=(by omega);(obtain ⟨n0,n1,n2,n3,n4,n5,n6,n7⟩:=bN.cells8;have f0:=bN.frozen 0;have f1:=bN.frozen 1;have f2:=bN.frozen 2;have f3:=bN.frozen 3;have f4:=bN.frozen 4;have f5:=bN.frozen 5;have f6:=bN.frozen 6;have f7:=bN.frozen 7);have hd : (er != 0) = true:=(by simpa using hz);have HZ:=hid hz;clear hb1 bSl hfs hz)
  refine bodyPost_ret (v:=.tuple #[.agg #[.int .i64 0,.int .i64 0,.slice none 0 0,.int .i64 0,.int .i64 0,.int .i64 0,.slice none 0 0,.slice none 0 0],.int .i64 er]) (by simp [results,Tryz.results30,go_sem,n0,n1,n2,n3,n4,n5,n6,n7]) rfl ⟨_,er,_,?_,rfl,k0_reads _,⟨by simp [Cf.K0],fun x hx=>by cases hx⟩,BLw⟩
  have h9:=HFS.out
  unfold NwIs
  by_cases ha : L2.nameE (L2.Ds.bl a) = 0
  ·rw [if_neg (by rw [ha];decide)] at h9 ⊢
   rw [if_pos (by rw [← h9];exact HZ.out)]
   exact ⟨rfl,h9⟩
  ·rw [if_pos ha] at h9 ⊢
   exact ⟨rfl,h9⟩
end Go.Proofs.YtnojgiflgmnjlaaGreatDoor
namespace Go.Proofs.YtnojgiflgmnjlaaGreatDoor
open Go.RowKit
set_option maxHeartbeats 1000000 in
theorem cloneMember_any (m : Cf.Mb) (cv hv : Value) (w : World) (hB : L3.Bs w.heap.size w cv m.code) (hH : Kit.IsS 4 w hv m.hs.length (m.hs.flatMap hL)) (hc : m.code.length ≤ 140737488355328) (hh : m.hs.length * 32 ≤ 140737488355328) :
  Calls Tryz.prog 78 #[mbV m cv hv] w fun e w'=>∃ cv' hv',e = .returned (mbV m cv' hv') ∧ OMb w' w.heap.size (mL m cv' hv') m ∧ Below w.heap.size w w':=by
 have HBc:=hid (fun W (k : Below w.heap.size w W)=>bclone_any m.code.length (m.code.map L3.bv) cv W (isS_of_bs ((hB.below k (Nat.le_refl _)).mono k.size) hc) (by omega) (ones_b m.code))
 have HHc:=hid (fun W (k : Below w.heap.size w W)=>hclone_any m.hs.length (m.hs.flatMap hL) hv W (hH.below k (Nat.le_refl _)) hh (ones_hs m.hs))
 unfold ClonePost at HBc HHc
 obtain ⟨xa,xc,rfl⟩:=hB.len
 obtain ⟨ya,yc,rfl⟩:=hH.len
 obtain ⟨ac,nm,ds,st,lc,co,hs9⟩:=m
 unfold mbV mL
 dsimp only at HBc HHc hc hh ⊢
 have HSz:=hid (And.intro hc hh)
 clear hB hH hc hh
 go_enter Tryz.func78,Tryz.ntmps78
 go_wp2_with (first
  | (go_at_call 129;refine (HBc.out _ BLw).mono ?_;rintro e w1 ⟨v1,rfl,o1,hb1⟩;obtain ⟨ca,cc,rfl⟩:=L3.own_form o1;obtain ⟨bM,bR,hz1,B1⟩:=boxes2 hb1;simp only [World.size_alloc] at o1;have O1:=hid o1;have BM:=hid bM;have BR:=hid bR;have m0:=bM.cell 0;have m1:=bM.cell 1;have m2:=bM.cell 2;have m3:=bM.cell 3;have m4:=bM.cell 4;have m5:=bM.cell 5;have m6:=bM.cell 6;have g0:=bM.frozen 5;have g1:=bM.frozen 6;simp at m0 m1 m2 m3 m4 m5 m6;clear hb1 bM bR o1)
  | (go_at_call 130;have Bx : Below w.heap.size w (w1.setCell ⟨w.heap.size,5,none⟩ (.slice ca co.length cc)):=BLw;refine (HHc.out _ Bx).mono ?_;rintro e w2 ⟨v2,rfl,o2,hb2⟩;obtain ⟨ha,hc,rfl⟩:=L3.own_form o2;have B2:=belows Bx hb2 Bx.size;have hz2:=hb2.size;simp only [World.size_setCell] at hz2 o2;have O2:=hid o2;have O1b:=hid (Kit.owns_below (Kit.owns_grown O1.out (L3.set_grown _ w.heap.size 5 _) (by omega)) hb2 (Nat.le_refl _));have bM:=(BM.out.set 5 (.slice ca co.length cc)).below hb2 (by simp only [World.size_setCell];omega);have bR:=(BR.out.grown (L3.set_grown w1 w.heap.size 5 (.slice ca co.length cc)) (fun e=>by (have:=Option.some.inj e;omega))).below hb2 (by simp only [World.size_setCell];omega);have m0:=bM.cell 0;have m1:=bM.cell 1;have m2:=bM.cell 2;have m3:=bM.cell 3;have m4:=bM.cell 4;have m5:=bM.cell 5;have m6:=bM.cell 6;have g0:=bM.frozen 5;have g1:=bM.frozen 6;simp at m0 m1 m2 m3 m4 m5 m6;obtain ⟨r0,r1,r2,r3,r4,r5,r6⟩:=bR.cells7;have f0:=bR.frozen 0;have f1:=bR.frozen 1;have f2:=bR.frozen 2;have f3:=bR.frozen 3;have f4:=bR.frozen 4;have f5:=bR.frozen 5;have f6:=bR.frozen 6;clear hb2 o2 bM bR))
 refine bodyPost_ret (v:=.agg #[.int .i64 ac,.int .i64 nm,.int .i64 ds,.int .i64 st,.int .i64 lc,.slice ca co.length cc,.slice ha hs9.length hc]) (by simp [results,Tryz.results78,go_sem,r0,r1,r2,r3,r4,r5,r6]) rfl ⟨_,_,rfl,⟨_,_,rfl,?_,?_,HSz.out.1,by have:=HSz.out.2;show hs9.length ≤ _;omega⟩,BLw⟩
 ·have hlt : w.heap.size + 1 < w.heap.size + 1 + 1:=by omega
  have hlt2 : w.heap.size < w.heap.size + 1 + 1:=by omega
  refine L3.own_mono (base:=w.heap.size + 1 + 1) ?_ (by omega)
  (iterate 7 (refine Kit.owns_grown ?_ (L3.set_grown _ _ _ _) hlt))
  exact Kit.owns_grown O1b.out (L3.set_grown _ _ _ _) hlt2
 ·have hlt : w.heap.size + 1 < w.heap.size + 1 + 1:=by omega
  have hlt2 : w.heap.size < w.heap.size + 1 + 1:=by omega
  refine L3.own_mono (base:=w.heap.size + 1 + 1) ?_ (by omega)
  (iterate 7 (refine Kit.owns_grown ?_ (L3.set_grown _ _ _ _) hlt))
  exact Kit.owns_grown (L3.own_mono O2.out (by omega)) (L3.set_grown _ _ _ _) hlt2
end Go.Proofs.YtnojgiflgmnjlaaGreatDoor
