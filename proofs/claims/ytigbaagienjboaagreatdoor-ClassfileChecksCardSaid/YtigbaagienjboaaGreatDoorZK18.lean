/- Own texts for the claim, part 18. -/
import Derived.Test.YtigbaagienjboaaGreatDoorZK17
import Derived.Test.YtigbaagienjboaaGreatDoorCards
import Derived.Test.YtigbaagienjboaaGreatDoorTie
import Derived.Deep.DeepHandedRow
import Derived.Lib.LaidTab
import Derived.Lib.LaidIn
import Derived.Lib.LaidU8
import Derived.Stop.LaidErr
import Derived.Deep.RegionHeld3
set_option maxRecDepth 100000
namespace Go.Proofs.YtigbaagienjboaaGreatDoor
open Go.RowKit
theorem ask0_any (c : Cf.Cl) (vs : Array Value) (cb : Nat) (w : World) (hk : Ck w c) (h : ClR w vs c) (hx : L3.BX w cb vs 26) :
  Calls Tryz.prog 56 #[.func (.func 51) #[] #[],.pointer (some ⟨cb,0,none⟩)] w fun e w'=>∃ er,Cf.AskIs c 0 er ∧ e = .returned (.int .i64 er) ∧ Below w.heap.size w w':=by
 have HC:=hid (show Calls Tryz.prog 51 #[.agg vs] w fun e w'=>∃ er,Cf.AskIs c 0 er ∧ e = .returned (.int .i64 er) ∧ Below w.heap.size w w' from checkHead_any c vs w hk.t3 h hk.ps)
 obtain ⟨pv,fv,mv,rfl,hp,hf,hm⟩:=h
 have q0:=hx.cell 0
 have q1:=hx.cell 1
 have q2:=hx.cell 2
 have q3:=hx.cell 3
 have q4:=hx.cell 4
 have q5:=hx.cell 5
 have q6:=hx.cell 6
 have q7:=hx.cell 7
 simp at q0 q1 q2 q3 q4 q5 q6 q7
 clear hp hf hm hx hk
 go_enter Tryz.func56,Tryz.ntmps56
 go_wp2_with (go_at_call 51;refine HC.out.mono ?_;rintro e w1 ⟨er,hR,rfl,hb⟩)
 go_ret
 exact ⟨er,hR,rfl,hb⟩
theorem ask1_any (c : Cf.Cl) (vs : Array Value) (cb : Nat) (w : World) (hk : Ck w c) (h : ClR w vs c) (hx : L3.BX w cb vs 26) :
  Calls Tryz.prog 56 #[.func (.func 52) #[] #[],.pointer (some ⟨cb,0,none⟩)] w fun e w'=>∃ er,Cf.AskIs c 1 er ∧ e = .returned (.int .i64 er) ∧ Below w.heap.size w w':=by
 have HC:=hid (show Calls Tryz.prog 52 #[.agg vs] w fun e w'=>∃ er,Cf.AskIs c 1 er ∧ e = .returned (.int .i64 er) ∧ Below w.heap.size w w' from checkFields_any c vs w h hk.ps)
 obtain ⟨pv,fv,mv,rfl,hp,hf,hm⟩:=h
 have q0:=hx.cell 0
 have q1:=hx.cell 1
 have q2:=hx.cell 2
 have q3:=hx.cell 3
 have q4:=hx.cell 4
 have q5:=hx.cell 5
 have q6:=hx.cell 6
 have q7:=hx.cell 7
 simp at q0 q1 q2 q3 q4 q5 q6 q7
 clear hp hf hm hx hk
 go_enter Tryz.func56,Tryz.ntmps56
 go_wp2_with (go_at_call 52;refine HC.out.mono ?_;rintro e w1 ⟨er,hR,rfl,hb⟩)
 go_ret
 exact ⟨er,hR,rfl,hb⟩
theorem ask2_any (c : Cf.Cl) (vs : Array Value) (cb : Nat) (w : World) (hk : Ck w c) (h : ClR w vs c) (hx : L3.BX w cb vs 26) :
  Calls Tryz.prog 56 #[.func (.func 53) #[] #[],.pointer (some ⟨cb,0,none⟩)] w fun e w'=>∃ er,Cf.AskIs c 2 er ∧ e = .returned (.int .i64 er) ∧ Below w.heap.size w w':=by
 have HC:=hid (show Calls Tryz.prog 53 #[.agg vs] w fun e w'=>∃ er,Cf.AskIs c 2 er ∧ e = .returned (.int .i64 er) ∧ Below w.heap.size w w' from checkMethods_any c vs w h hk.ps hk.t1)
 obtain ⟨pv,fv,mv,rfl,hp,hf,hm⟩:=h
 have q0:=hx.cell 0
 have q1:=hx.cell 1
 have q2:=hx.cell 2
 have q3:=hx.cell 3
 have q4:=hx.cell 4
 have q5:=hx.cell 5
 have q6:=hx.cell 6
 have q7:=hx.cell 7
 simp at q0 q1 q2 q3 q4 q5 q6 q7
 clear hp hf hm hx hk
 go_enter Tryz.func56,Tryz.ntmps56
 go_wp2_with (go_at_call 53;refine HC.out.mono ?_;rintro e w1 ⟨er,hR,rfl,hb⟩)
 go_ret
 exact ⟨er,hR,rfl,hb⟩
theorem ask3_any (c : Cf.Cl) (vs : Array Value) (cb : Nat) (w : World) (hk : Ck w c) (h : ClR w vs c) (hx : L3.BX w cb vs 26) :
  Calls Tryz.prog 56 #[.func (.func 54) #[] #[],.pointer (some ⟨cb,0,none⟩)] w fun e w'=>∃ er,Cf.AskIs c 3 er ∧ e = .returned (.int .i64 er) ∧ Below w.heap.size w w':=by
 have HC:=hid (show Calls Tryz.prog 54 #[.agg vs] w fun e w'=>∃ er,Cf.AskIs c 3 er ∧ e = .returned (.int .i64 er) ∧ Below w.heap.size w w' from checkCodeName_any c vs w h hk.pl)
 obtain ⟨pv,fv,mv,rfl,hp,hf,hm⟩:=h
 have q0:=hx.cell 0
 have q1:=hx.cell 1
 have q2:=hx.cell 2
 have q3:=hx.cell 3
 have q4:=hx.cell 4
 have q5:=hx.cell 5
 have q6:=hx.cell 6
 have q7:=hx.cell 7
 simp at q0 q1 q2 q3 q4 q5 q6 q7
 clear hp hf hm hx hk
 go_enter Tryz.func56,Tryz.ntmps56
 go_wp2_with (go_at_call 54;refine HC.out.mono ?_;rintro e w1 ⟨er,hR,rfl,hb⟩)
 go_ret
 exact ⟨er,hR,rfl,hb⟩
theorem ask_any (c : Cf.Cl) (vs : Array Value) (cb : Nat) (i : Nat) (hi : i < 4) (w : World) (hk : Ck w c) (h : ClR w vs c) (hx : L3.BX w cb vs 26) :
  Calls Tryz.prog 56 #[askF i,.pointer (some ⟨cb,0,none⟩)] w fun e w'=>∃ er,Cf.AskIs c i er ∧ e = .returned (.int .i64 er) ∧ Below w.heap.size w w':=by
 match i,hi with
 | 0,_=>exact ask0_any c vs cb w hk h hx
 | 1,_=>exact ask1_any c vs cb w hk h hx
 | 2,_=>exact ask2_any c vs cb w hk h hx
 | 3,_=>exact ask3_any c vs cb w hk h hx
set_option maxHeartbeats 2000000 in
theorem firstC_any (c : Cf.Cl) (vs : Array Value) (cb sb : Nat) (w : World) (hk : Ck w c) (h : ClR w vs c) (hx : L3.BX w cb vs 26) (hs : L3.BX w sb #[askF 0,askF 1,askF 2,askF 3] 35) :
  Calls Tryz.prog 55 #[.slice (some ⟨sb,0,none⟩) 4 4,.func (.func 56) #[] #[.pointer (some ⟨cb,0,none⟩)]] w fun e w'=>∃ er,Cf.ClIs c er ∧ e = .returned (.int .i64 er) ∧ Below w.heap.size w w':=by
 have HA:=hid (fun i hi W (k : Below w.heap.size w W)=>ask_any c vs cb i hi W (hk.below k) (h.below k (Nat.le_refl _)) (hx.below k hx.sz))
 have HS:=hid (fun W (k : Below w.heap.size w W) (j : Nat)=>(k.cell (p:=⟨sb,j,none⟩) (by simpa using hs.sz)).trans (hs.cell j))
 unfold Cf.ClIs
 clear hk h hx hs
 go_enter Tryz.func55,Tryz.ntmps55
 go_wp2
 go_loopw [10] (fun i wr=>∃ k : Nat,k ≤ 4 ∧ i = .int .i64 k ∧ Below w.heap.size w wr ∧ ∀ j,j < k → Cf.AskIs c j 0) (fun i _=>4 - (intOf i).toNat)
 case atStart=>exact ⟨0,by omega,rfl,BLw,fun j hj=>by omega⟩
 case round =>
  obtain ⟨k,hk,rfl,hJ,hall⟩:=hrel
  have HAll:=hid hall
  have hzw:=hJ.size
  by_cases hlt : k < 4
  ·have c0:=HS.out wr hJ k
   have hc : (#[askF 0,askF 1,askF 2,askF 3] : Array Value)[k]? = some (askF k):=by
    match k,hlt with
    | 0,_|1,_|2,_|3,_=>rfl
   rw [hc] at c0
   have HA1:=hid (HA.out k hlt wr hJ)
   have hki : (k : Int) < 4:=by omega
   obtain ⟨fv,hfv⟩ : ∃ fv,fv = askF k:=⟨_,rfl⟩
   rw [← hfv] at c0 HA1
   clear hc hfv hall
   go_wp2_with (go_at_call 56;refine HA1.out.mono ?_;rintro e W1 ⟨er,hR,rfl,hb1⟩;have HR:=hid hR;have B1:=belows hJ hb1 hzw;by_cases hz : er = 0;all_goals (first|(subst hz;clear hR)|(have hd : (er != 0) = true:=(by simpa using hz);have HZ:=hid hz;clear hz hR)))
   ·go_roundw
    case rel=>exact ⟨k + 1,by omega,by go_num,B1,fun j hj=>by
     by_cases e : j = k
     ·subst e;exact HR.out
     ·exact HAll.out j (by omega)⟩
    case measure=>simp [intOf];omega
   ·go_ret
    exact ⟨er,Cf.FstR.at HAll.out hlt HR.out HZ.out,rfl,B1⟩
  ·obtain rfl : k = 4:=by omega
   have hb:=hJ
   clear hall
   go_wp2
   go_ret
   exact ⟨0,Cf.FstR.all HAll.out,rfl,hb⟩
set_option maxHeartbeats 1000000 in
theorem check_any (c : Cf.Cl) (vs : Array Value) (w : World) (hk : Ck w c) (h : ClR w vs c) :
  Calls Tryz.prog 17 #[.agg vs] w fun e w'=>∃ er,Cf.ClIs c er ∧ e = .returned (.int .i64 er) ∧ Below w.heap.size w w':=by
 have HF:=hid (fun W (k : Below w.heap.size w W) hx hs=>firstC_any c vs w.heap.size (w.heap.size + 1) W (hk.below k) (h.below k (Nat.le_refl _)) hx hs)
 have hcl:=h
 obtain ⟨pv,fv,mv,rfl,hp,hf,hm⟩:=h
 have hmf:=L3.A.mkF
 have hB : Below w.heap.size w ((w.alloc (.cells #[.int .i64 c.mi,.int .i64 c.ma,pv,.int .i64 c.ac,.int .i64 c.th,.int .i64 c.su,fv,mv] 26)).alloc (.cells #[askF 0,askF 1,askF 2,askF 3] 35)):=BLw
 have hx:=(L3.BX.new w #[.int .i64 c.mi,.int .i64 c.ma,pv,.int .i64 c.ac,.int .i64 c.th,.int .i64 c.su,fv,mv] 26).below (n:=w.heap.size + 1) (w':=(w.alloc (.cells #[.int .i64 c.mi,.int .i64 c.ma,pv,.int .i64 c.ac,.int .i64 c.th,.int .i64 c.su,fv,mv] 26)).alloc (.cells #[askF 0,askF 1,askF 2,askF 3] 35)) ((Below.refl _ _).alloc (by simp) _) (by omega)
 have hs : L3.BX ((w.alloc (.cells #[.int .i64 c.mi,.int .i64 c.ma,pv,.int .i64 c.ac,.int .i64 c.th,.int .i64 c.su,fv,mv] 26)).alloc (.cells #[askF 0,askF 1,askF 2,askF 3] 35)) (w.heap.size + 1) #[askF 0,askF 1,askF 2,askF 3] 35:=by
  have:=L3.BX.new (w.alloc (.cells #[.int .i64 c.mi,.int .i64 c.ma,pv,.int .i64 c.ac,.int .i64 c.th,.int .i64 c.su,fv,mv] 26)) #[askF 0,askF 1,askF 2,askF 3] 35
  simpa using this
 have H2:=hid (HF.out _ hB hx hs)
 unfold askF at H2
 have HB:=hid hB
 clear HF hk hcl hp hf hm hx hs hB
 go_enter Tryz.func17,Tryz.ntmps17
 go_wp2_with (go_at_call 55;refine H2.out.mono ?_;rintro e W1 ⟨er,hR,rfl,hb1⟩)
 go_ret
 exact ⟨er,hR,rfl,belows HB.out hb1 HB.out.size⟩
end Go.Proofs.YtigbaagienjboaaGreatDoor
namespace Go.Proofs.YtigbaagienjboaaGreatDoor
open Go.RowKit
def CdPost (c : Cf.Cl) (vs : Array Value) (w : World) (e : Ending) (w' : World) : Prop :=
 ((Cf.ClIs c 0 ∧ e = .returned (.tuple #[.agg vs,.int .i64 0])) ∨ ∃ er,er ≠ 0 ∧ Cf.ClIs c er ∧ e = .returned (.tuple #[K0V,.int .i64 er])) ∧ Below w.heap.size w w'
set_option maxHeartbeats 1000000 in
theorem checked_any (c : Cf.Cl) (vs : Array Value) (w : World) (hk : Ck w c) (h : ClR w vs c) :
  Calls Tryz.prog 35 #[.agg vs] w (CdPost c vs w):=by
 have HC:=hid (fun W (k : Below w.heap.size w W)=>check_any c vs W (hk.below k) (h.below k (Nat.le_refl _)))
 obtain ⟨pv,fv,mv,rfl,hp,hf,hm⟩:=h
 obtain ⟨pa,pc,rfl⟩:=hp.len
 obtain ⟨fa,fc,rfl⟩:=hf.len
 obtain ⟨ma2,mc,rfl⟩:=hm.len
 unfold CdPost K0V
 clear hk hp hf hm
 go_enter Tryz.func35,Tryz.ntmps35
 go_wp2_with (go_at_call 17;(with_reducible refine (HC.out _ ?_).mono ?_);exact BLw;rintro e w1 ⟨er,hR,rfl,hb1⟩;obtain ⟨bC,bN,hzC,B1⟩:=boxes2 hb1;have HR:=hid hR;have q0:=bC.cell 0;have q1:=bC.cell 1;have q2:=bC.cell 2;have q3:=bC.cell 3;have q4:=bC.cell 4;have q5:=bC.cell 5;have q6:=bC.cell 6;have q7:=bC.cell 7;have n0:=bN.cell 0;have n1:=bN.cell 1;have n2:=bN.cell 2;have n3:=bN.cell 3;have n4:=bN.cell 4;have n5:=bN.cell 5;have n6:=bN.cell 6;have n7:=bN.cell 7;have f0:=bN.frozen 0;have f1:=bN.frozen 1;have f2:=bN.frozen 2;have f3:=bN.frozen 3;have f4:=bN.frozen 4;have f5:=bN.frozen 5;have f6:=bN.frozen 6;have f7:=bN.frozen 7;simp at q0 q1 q2 q3 q4 q5 q6 q7 n0 n1 n2 n3 n4 n5 n6 n7;clear hb1 bC bN;by_cases hz : er = 0;all_goals (first|(subst hz;clear hR)|(have hd : (er != 0) = true:=(by simpa using hz);have HZ:=hid hz;clear hz hR)))
 ·exact bodyPost_ret (v:=.tuple #[.agg #[.int .i64 c.mi,.int .i64 c.ma,.slice pa c.pool.length pc,.int .i64 c.ac,.int .i64 c.th,.int .i64 c.su,.slice fa c.fs.length fc,.slice ma2 c.ms.length mc],.int .i64 0]) (by simp [results,Tryz.results35,go_sem,n0,n1,n2,n3,n4,n5,n6,n7]) rfl ⟨.inl ⟨HR.out,rfl⟩,BLw⟩
 ·exact bodyPost_ret (v:=.tuple #[.agg #[.int .i64 0,.int .i64 0,.slice none 0 0,.int .i64 0,.int .i64 0,.int .i64 0,.slice none 0 0,.slice none 0 0],.int .i64 er]) (by simp [results,Tryz.results35,go_sem,n0,n1,n2,n3,n4,n5,n6,n7]) rfl ⟨.inr ⟨er,HZ.out,HR.out,rfl⟩,BLw⟩
theorem k0_reads (w : World) : ClR w #[.int .i64 0,.int .i64 0,.slice none 0 0,.int .i64 0,.int .i64 0,.int .i64 0,.slice none 0 0,.slice none 0 0] Cf.K0 :=
 ⟨_,_,_,rfl,⟨rfl,by simp [Cf.K0],.inl ⟨rfl,none,0,rfl⟩⟩,⟨[],trivial,rfl,by simp [Cf.K0],.inl ⟨rfl,none,0,rfl⟩⟩,⟨[],trivial,rfl,by simp [Cf.K0],.inl ⟨rfl,none,0,rfl⟩⟩⟩
theorem pool_small {l : List L3.Cp.C} (h : L3.CkIs l 0) : ∀ c ∈ l,c.s.size ≤ 255:=by
 intro c hc
 obtain ⟨i,hi⟩:=List.mem_iff_getElem?.1 hc
 have hlt : i < l.length:=(List.getElem?_eq_some_iff.1 hi).1
 have h2:=(L3.ck_all.1 h).2 i hlt
 unfold L3.errAt at h2
 rw [hi] at h2
 dsimp only at h2
 by_cases hp : L3.prevB l i = true
 ·rw [if_pos hp] at h2
  by_cases h0 : c = L3.Cp.C0
  ·subst h0;show (⟨#[]⟩ : ByteArray).size ≤ 255;decide
  ·rw [if_neg h0] at h2;omega
 ·rw [if_neg hp] at h2
  by_cases hl : c.t = 5 ∧ i = l.length - 1
  ·rw [if_pos hl] at h2;omega
  ·rw [if_neg hl] at h2
   exact (L3.ce_size h2).2.2.1
theorem Cf.bnd_inv {α β : Type} {x : Cf.Ps α} {f : α → Cf.Ps β} {l : List UInt8} {y : β × List UInt8} (h : Cf.bnd x f l = .ok y) : ∃ a r,x l = .ok (a,r) ∧ f a r = .ok y:=by
 unfold Cf.bnd at h
 cases hx : x l with
 | error e=>rw [hx] at h;cases h
 | ok z=>obtain ⟨a,r⟩:=z;rw [hx] at h;exact ⟨a,r,rfl,h⟩
theorem cl_pool {bs r : List UInt8} {c : Cf.Cl} (h : Cf.clP bs = .ok (c,r)) : L3.CkIs c.pool 0 ∧ (∀ x ∈ c.pool,L3.I6 x.n):=by
 unfold Cf.clP at h
 obtain ⟨_,_,-,h⟩:=Cf.bnd_inv h
 obtain ⟨_,_,-,h⟩:=Cf.bnd_inv h
 obtain ⟨_,_,-,h⟩:=Cf.bnd_inv h
 obtain ⟨_,_,-,h⟩:=Cf.bnd_inv h
 obtain ⟨_,_,-,h⟩:=Cf.bnd_inv h
 obtain ⟨P,_,hP,h⟩:=Cf.bnd_inv h
 obtain ⟨_,_,-,h⟩:=Cf.bnd_inv h
 obtain ⟨_,_,-,h⟩:=Cf.bnd_inv h
 obtain ⟨_,_,-,h⟩:=Cf.bnd_inv h
 obtain ⟨_,_,-,h⟩:=Cf.bnd_inv h
 obtain ⟨_,_,-,h⟩:=Cf.bnd_inv h
 obtain ⟨_,_,-,h⟩:=Cf.bnd_inv h
 obtain ⟨_,_,-,h⟩:=Cf.bnd_inv h
 obtain ⟨_,_,-,h⟩:=Cf.bnd_inv h
 have e:=Prod.mk.inj (Except.ok.inj h)
 rw [← e.1]
 have hf:=L3.pl_forth hP
 exact ⟨hf.1,hf.2.1⟩
end Go.Proofs.YtigbaagienjboaaGreatDoor
namespace Go.Proofs.YtigbaagienjboaaGreatDoor
open Go.ChangeShapes Go.WideShapes Go.ChangeAt Go.RowKit
theorem own : ownKnob Tryz.prog.godebug = none:=by kernel_rfl
theorem gForms : Tryz.prog.globalNamed "tabard/opcode.forms" = some 5:=by kernel_rfl
theorem gBehind : Tryz.prog.globalNamed "tabard/opcode.behind" = some 1:=by kernel_rfl
theorem tForms : (Tryz.prog.globals[5]?).map (·.type) = some 247:=by kernel_rfl
theorem tBehind : (Tryz.prog.globals[1]?).map (·.type) = some 232:=by kernel_rfl
theorem cellsForms : Tryz.prog.cellsOf 247 = 200:=by kernel_rfl
theorem cellsBehind : Tryz.prog.cellsOf 232 = 9:=by kernel_rfl
theorem cellsByte : Tryz.prog.cellsOf 5 = 1:=by kernel_rfl
def formInts : List Int:=L1.Op1.forms.map fun n : Nat=>(n : Int)
def behindInts : List Int:=L1.Op1.behinds.map fun n : Nat=>(n : Int)
theorem gTags : Tryz.prog.globalNamed "tabard/cpool.tags" = some 0:=by kernel_rfl
theorem tTags : (Tryz.prog.globals[0]?).map (·.type) = some 205:=by kernel_rfl
theorem cellsW : Tryz.prog.cellsOf 169 = 4:=by kernel_rfl
theorem cellsI : Tryz.prog.cellsOf 3 = 1:=by kernel_rfl
def wdI (k : Nat) : List Int:=[((L3.Cp.wd k).1 : Int),(L3.Cp.wd k).2.1,(L3.Cp.wd k).2.2.1,(L3.Cp.wd k).2.2.2]
def tagData : DataW Unit:=.agg ((List.range 13).map fun k=>.agg ((wdI k).map fun z=>.lit (.int .i64 z)))
def laidL : List (String × DataW Unit):=[("unicode/utf8.acceptRanges",Rows.laid_unicode_utf8_acceptRanges),("tabard/cpool.tags",Rows.laid_tabard_cpool_tags),("tabard/opcode.forms",Rows.laid_tabard_opcode_forms),("tabard/opcode.behind",Rows.laid_tabard_opcode_behind),("unicode/utf8.first",Rows.laid_unicode_utf8_first)]
theorem laid_eq : laidL = [("unicode/utf8.acceptRanges",Rows.laid_unicode_utf8_acceptRanges),("tabard/cpool.tags",tagData),("tabard/opcode.forms",Lib.tabData .u8 formInts),("tabard/opcode.behind",Lib.tabData .u8 behindInts),("unicode/utf8.first",Rows.laid_unicode_utf8_first)]:=by kernel_rfl
theorem tabs1_of_laid {W : World} (h : laidMet Tryz.prog laidL W) : L1.Tabs W:=by
 rw [laid_eq] at h
 have h1 : Lib.TabIs Tryz.prog W "tabard/opcode.forms" .u8 formInts:=Lib.tabIs_of_head gForms tForms Tryz.underlying247 Tryz.underlying5 cellsByte cellsForms h.tail.tail
 have h2 : Lib.TabIs Tryz.prog W "tabard/opcode.behind" .u8 behindInts:=Lib.tabIs_of_head gBehind tBehind Tryz.underlying232 Tryz.underlying5 cellsByte cellsBehind h.tail.tail.tail
 have l1 : formInts.length = 200:=by kernel_rfl
 have l2 : behindInts.length = 9:=by kernel_rfl
 have c1 : ∀ k,k < 200 → W.cell? ⟨5,k,none⟩ = some (.int .u8 (L1.Op1.forms.getD k 0 : Nat)):=fun k hk=>by
  rw [h1.cell gForms k (by omega)]
  have : formInts.getD k 0 = ((L1.Op1.forms.getD k 0 : Nat) : Int):=(show ∀ k,k < 200 → formInts.getD k 0 = ((L1.Op1.forms.getD k 0 : Nat) : Int) by decide +kernel) k hk
  rw [this]
 have c2 : ∀ k,k < 9 → W.cell? ⟨1,k,none⟩ = some (.int .u8 (L1.Op1.behinds.getD k 0 : Nat)):=fun k hk=>by
  rw [h2.cell gBehind k (by omega)]
  have : behindInts.getD k 0 = ((L1.Op1.behinds.getD k 0 : Nat) : Int):=(show ∀ k,k < 9 → behindInts.getD k 0 = ((L1.Op1.behinds.getD k 0 : Nat) : Int) by decide +kernel) k hk
  rw [this]
 exact ⟨⟨World.block_lt_of_cell? W _ (c1 0 (by omega)),World.block_lt_of_cell? W _ (c2 0 (by omega))⟩,c1,c2⟩
theorem tabs3_of_laid {W : World} (h : laidMet Tryz.prog laidL W) : L3.Tabs W:=by
 rw [laid_eq] at h
 obtain ⟨g,t,cs,fuel,p,hg,hty,hvar,hd⟩:=Lib.laidMet.reads h (n := "tabard/cpool.tags") (d:=tagData) (by simp)
 obtain rfl:=Option.some.inj (gTags.symm.trans hg)
 obtain rfl:=Option.some.inj (tTags.symm.trans hty)
 have key : ∀ k,k < 13 → ∀ j z,(wdI k)[j]? = some z → W.cell? ⟨0,k * 4 + j,none⟩ = some (.int .i64 z):=by
  intro k hk j z hz
  obtain ⟨fuel',d,q,hdi,he⟩:=Lib.array_elem Tryz.underlying205 hd k hk
  simp only [List.getElem?_map,List.getElem?_range hk,Option.map_some,Option.some.injEq] at hdi
  subst hdi
  rw [cellsW] at he
  have hcs:=Lib.ints_of_struct Tryz.underlying169 (fun j f hj=>by
   match j,hj with
   | 0,hj=>simp at hj;subst hj;exact ⟨Tryz.underlying3,rfl,cellsI⟩
   | 1,hj=>simp at hj;subst hj;exact ⟨Tryz.underlying3,rfl,cellsI⟩
   | 2,hj=>simp at hj;subst hj;exact ⟨Tryz.underlying3,rfl,cellsI⟩
   | 3,hj=>simp at hj;subst hj;exact ⟨Tryz.underlying3,rfl,cellsI⟩
   | j + 4,hj=>simp at hj) (by rw [cellsW];rfl) he
  have hj4 : j < 4:=by rw [List.getElem?_eq_some_iff] at hz;exact hz.1
  have e0:=congrArg (·[j]?) hcs
  simp only [List.getElem?_take_of_lt hj4,List.getElem?_drop,List.getElem?_map,hz,Option.map_some] at e0
  rw [World.var?_cell hg hvar (k * 4 + j),← Array.getElem?_toList]
  exact e0
 refine ⟨World.block_lt_of_cell? W _ (key 0 (by omega) 0 _ rfl),fun k hk=>⟨?_,?_,?_,?_⟩⟩
 ·exact key k hk 0 _ rfl
 ·exact key k hk 1 _ rfl
 ·exact key k hk 2 _ rfl
 ·exact key k hk 3 _ rfl
def putCells (cs : Array Value) : Obj → Obj
 | .cells _ t frozen=>.cells cs t frozen
 | o=>o
noncomputable def laidWorld (os : Os) : World :=
 { World.holding Tryz.prog os ⟨#[],#[],[]⟩ with
  heap:=(((((World.holding Tryz.prog os ⟨#[],#[],[]⟩).heap.modify 0 (putCells ((List.range 13).flatMap fun k=>(wdI k).map fun z=>Value.int .i64 z).toArray)).modify 5 (putCells (formInts.map fun z=>Value.int .u8 z).toArray)).modify 1 (putCells (behindInts.map fun z=>Value.int .u8 z).toArray)).modify 2 (putCells (Lib.firstTab.map fun z=>Value.int .u8 z).toArray)).modify 3 (putCells ((List.range 16).flatMap fun i=>[Value.int .u8 (Lib.accLo i),Value.int .u8 (Lib.accHi i)]).toArray) }
section
variable {H : Type} {enc : TypeId × Value → H}
theorem weights_eachT {P : Program} : ∀ {ts : List TypeId} {ds : List (DataW H)} {j : Nat} {t : TypeId} {d : DataW H},ts[j]? = some t → ds[j]? = some d → (DataW.weightsEach P ts ds).all (·≤ reachBytes) = true → (d.weights P t).all (·≤ reachBytes) = true
 | [],_,_,_,_,h,_,_=>by simp at h
 | _ :: _,[],_,_,_,_,h,_=>by simp at h
 | t :: ts,d :: ds,0,_,_,h1,h2,h=>by
  simp only [List.getElem?_cons_zero,Option.some.injEq] at h1 h2
  subst h1 h2
  simp only [DataW.weightsEach,List.all_append,Bool.and_eq_true] at h
  exact h.1
 | t :: ts,d :: ds,j + 1,_,_,h1,h2,h=>by
  simp only [DataW.weightsEach,List.all_append,Bool.and_eq_true] at h
  exact weights_eachT (j:=j) (by simpa using h1) (by simpa using h2) h.2
end
end Go.Proofs.YtigbaagienjboaaGreatDoor
namespace Go.Proofs.YtigbaagienjboaaGreatDoor
open Go.RowKit
theorem begB_take {l : List L1.Op1.Ins} {p : Int} {k : Nat} {x : L1.Op1.Ins} (h : Cf.begB (l.take k) p = false) (hx : l[k]? = some x) (hne : x.p ≠ p) : Cf.begB (l.take (k + 1)) p = false:=by
 rw [List.take_add_one,hx]
 unfold Cf.begB at h ⊢
 rw [List.any_append,h]
 simpa using hne
theorem begB_yes {l : List L1.Op1.Ins} {p : Int} {k : Nat} {x : L1.Op1.Ins} (hx : l[k]? = some x) (he : x.p = p) : Cf.begB l p = true:=by
 unfold Cf.begB
 rw [List.any_eq_true]
 exact ⟨x,List.mem_of_getElem? hx,by simpa using he⟩
set_option maxHeartbeats 1000000 in
theorem rbegins_any (l : List L1.Op1.Ins) (p : Int) (v : Value) (w : World) (hv : Kit.IsS 4 w v l.length (L1.insCells l)) :
  Calls Tryz.prog 160 #[v,.int .i64 p] w fun e w'=>e = .returned (.bool (Cf.begB l p)) ∧ w = w':=by
 have HV:=hid hv
 obtain ⟨a,cap,rfl⟩:=hv.len
 have hlen:=hv.2.1
 obtain ⟨r,hr⟩ : ∃ r,r = Cf.begB l p:=⟨_,rfl⟩
 rw [← hr]
 have HR:=hid hr
 clear hv hr
 go_enter Tryz.func160,Tryz.ntmps160
 go_wp2
 go_loopw [5] (fun i wr=>∃ k : Nat,k ≤ l.length ∧ i = .int .i64 k ∧ Hid (Cf.begB (l.take k) p = false) ∧ w = wr) (fun i _=>l.length - (intOf i).toNat)
 case atStart=>exact ⟨0,by omega,rfl,rfl,rfl⟩
 case round =>
  obtain ⟨k,hk,rfl,htk,rfl⟩:=hrel
  by_cases hlt : k < l.length
  ·obtain ⟨x,hx⟩ : ∃ x,l[k]? = some x:=⟨l[k],List.getElem?_eq_getElem hlt⟩
   obtain ⟨b,o,cap',hv,hb,c0,-,-,-⟩:=L1.ins_at HV.out hx
   obtain ⟨rfl,-,rfl⟩:=Value.slice.inj hv
   have i1 : (k : Int) < (l.length : Int):=by omega
   by_cases hxy : x.p = p
   ·have HF : Hid (r = true):=HR.out.trans (begB_yes hx hxy)
    clear hx hv
    have hd : (x.p == p) = true:=by simpa using hxy
    clear hxy
    go_wp2
    go_ret
    exact ⟨by rw [HF.out];rfl,rfl⟩
   ·have HF:=hid (begB_take htk.out hx hxy)
    have hd : (x.p == p) = false:=by simpa using hxy
    clear hx hv hxy
    go_wp2
    go_roundw
    case rel=>exact ⟨k + 1,by omega,by go_num,HF,by first|rfl|trivial⟩
    case measure=>simp [intOf];omega
  ·obtain rfl : k = l.length:=by omega
   have HF : Hid (r = false):=by
    show r = false
    have:=htk.out
    rw [List.take_length] at this
    rw [HR.out,this]
   go_wp2
   go_ret
   exact ⟨by rw [HF.out];rfl,rfl⟩
theorem inB_take {P : List L3.Cp.C} {ms : List Cf.Mb} {n : ByteArray × ByteArray} {k : Nat} {m : Cf.Mb} (h : Cf.inB n (Cf.ahead P ms k) = false) (hm : ms[k]? = some m) (hne : ¬ ((Cf.mbO P m).1.1 = n.1 ∧ (Cf.mbO P m).1.2 = n.2)) : Cf.inB n (Cf.ahead P ms (k + 1)) = false:=by
 unfold Cf.ahead at h ⊢
 rw [List.take_add_one,hm]
 unfold Cf.inB at h ⊢
 rw [List.map_append,List.any_append,h]
 simpa using hne
theorem inB_yes {P : List L3.Cp.C} {ms : List Cf.Mb} {n : ByteArray × ByteArray} {k : Nat} {m : Cf.Mb} (hm : ms[k]? = some m) (h : (Cf.mbO P m).1.1 = n.1 ∧ (Cf.mbO P m).1.2 = n.2) : Cf.inB n (Cf.ahead P ms ms.length) = true:=by
 unfold Cf.inB Cf.ahead
 rw [List.take_length,List.any_eq_true]
 exact ⟨_,List.mem_map_of_mem (List.mem_of_getElem? hm),by simpa using h⟩
theorem str_ne {a b : ByteArray} (h : ¬ a = b) : (a.toList == b.toList) = false:=by
 rw [beq_eq_false_iff_ne]
 intro e
 rw [ByteArray.toList_eq,ByteArray.toList_eq] at e
 exact h (ByteArray.ext (Array.toList_inj.1 e))
set_option maxHeartbeats 2000000 in
theorem rtwice_any (c : Cf.Cl) (vs : Array Value) (ms : List Cf.Mb) (v : Value) (n : ByteArray × ByteArray) (w : World) (hv : ClR w vs c) (hm : MsR w v ms) :
  Calls Tryz.prog 116 #[.agg vs,v,ndV n] w fun e w'=>e = .returned (.bool (Cf.inB n (Cf.ahead c.pool ms ms.length))) ∧ Below w.heap.size w w':=by
 have HC0:=hid hv
 have HV:=hid hm
 obtain ⟨pv,fv,mv,rfl,hp,hf,hms⟩:=hv
 obtain ⟨pa,pc,rfl⟩:=hp.len
 obtain ⟨fa,fc,rfl⟩:=hf.len
 obtain ⟨ma,mc,rfl⟩:=hms.len
 obtain ⟨a,cap,rfl⟩:=hm.len
 obtain ⟨r,hr⟩ : ∃ r,r = Cf.inB n (Cf.ahead c.pool ms ms.length):=⟨_,rfl⟩
 rw [← hr]
 have HR:=hid hr
 have HLn:=hid hm.size
 obtain ⟨n1,n2⟩:=n
 unfold ndV
 dsimp only at HR ⊢
 clear hp hf hms hm hr
 go_enter Tryz.func116,Tryz.ntmps116
 go_wp2_with fail
 obtain ⟨W1,hW1⟩ : ∃ W1,W1 = ((w.alloc (.cells #[.int .i64 c.mi,.int .i64 c.ma,.slice pa c.pool.length pc,.int .i64 c.ac,.int .i64 c.th,.int .i64 c.su,.slice fa c.fs.length fc,.slice ma c.ms.length mc] 26)).alloc (.cells #[.string ⟨#[]⟩,.string n1,.string n2] 44)):=⟨_,rfl⟩
 obtain ⟨bC,bN,hzW,B1⟩:=boxes2 (w:=w) (w1:=W1) (by rw [hW1];exact Below.refl _ _)
 rw [← hW1]
 have HB1:=hid B1
 have BC1:=hid bC
 have BN1:=hid bN
 clear hW1 bC bN B1
 go_loopw [7] (fun i wr=>∃ k : Nat,k ≤ ms.length ∧ i = .int .i64 k ∧ Hid (Cf.inB (n1,n2) (Cf.ahead c.pool ms k) = false) ∧ Below W1.heap.size W1 wr) (fun i _=>ms.length - (intOf i).toNat)
 case atStart=>exact ⟨0,by omega,rfl,rfl,Below.refl _ _⟩
 case round =>
  obtain ⟨k,hk,rfl,htk,hbl⟩:=hrel
  have HJ:=hid hbl
  have hln:=HLn.out
  have hBr : Below w.heap.size w wr:=belows HB1.out hbl HB1.out.size
  by_cases hlt : k < ms.length
  ·obtain ⟨x,hx⟩ : ∃ x,ms[k]? = some x:=⟨ms[k],List.getElem?_eq_getElem hlt⟩
   obtain ⟨b,o,cap',cv,hw,hv2,hbb,hB,hH,hl,c0,c1,c2,c3,c4,c5,c6⟩:=(HV.out.below hBr (Nat.le_refl _)).at hx
   obtain ⟨rfl,-,rfl⟩:=Value.slice.inj hv2
   have i1 : (k : Int) < (ms.length : Int):=by omega
   have hx1:=HC0.out
   have HA1:=fun W (q : Below w.heap.size w W)=>rmember_any c _ x cv hw W (HC0.out.below q (Nat.le_refl _))
   obtain ⟨xa,xc,rfl⟩:=hB.len
   obtain ⟨ya,yc,rfl⟩:=hH.len
   have hstep:=fun (hne : ¬ ((Cf.mbO c.pool x).1.1 = n1 ∧ (Cf.mbO c.pool x).1.2 = n2))=>inB_take (n:=(n1,n2)) htk.out hx hne
   have hyes:=fun (he : (Cf.mbO c.pool x).1.1 = n1 ∧ (Cf.mbO c.pool x).1.2 = n2)=>inB_yes (n:=(n1,n2)) hx he
   obtain ⟨⟨⟨x1,x2⟩,xe⟩,hxe⟩ : ∃ y,y = Cf.mbO c.pool x:=⟨_,rfl⟩
   rw [← hxe] at HA1 hstep hyes
   unfold ndV mbV at HA1
   dsimp only at HA1 hstep hyes
   have HA:=hid HA1
   have HS:=hid hstep
   have HY:=hid hyes
   have bC:=BC1.out.below hbl BC1.out.sz
   have bN:=BN1.out.below hbl BN1.out.sz
   have hzr:=hbl.size
   (have q0:=bC.cell 0;have fq0:=bC.frozen 0;have q1:=bC.cell 1;have fq1:=bC.frozen 1;have q2:=bC.cell 2;have fq2:=bC.frozen 2;have q3:=bC.cell 3;have fq3:=bC.frozen 3;have q4:=bC.cell 4;have fq4:=bC.frozen 4;have q5:=bC.cell 5;have fq5:=bC.frozen 5;have q6:=bC.cell 6;have fq6:=bC.frozen 6;have q7:=bC.cell 7;have fq7:=bC.frozen 7;simp at q0 q1 q2 q3 q4 q5 q6 q7)
   have p0:=bN.cell 0
   have p1:=bN.cell 1
   have p2:=bN.cell 2
   simp at p0 p1 p2
   clear hx hv2 hB hH hl hx1 HA1 hstep hyes hxe bC bN
   have hn1 : ¬ wr.heap.size = w.heap.size:=by omega
   have hn2 : ¬ wr.heap.size = b:=by omega
   have hn3 : ¬ wr.heap.size = w.heap.size + 1:=by omega
   go_wp2_with fail
   go_region_held3 (fun w'=>w'.cell? ⟨w.heap.size,0,none⟩ = some (.int .i64 c.mi) ∧ w'.cell? ⟨w.heap.size,1,none⟩ = some (.int .i64 c.ma) ∧ w'.cell? ⟨w.heap.size,2,none⟩ = some (.slice pa c.pool.length pc) ∧ w'.cell? ⟨w.heap.size,3,none⟩ = some (.int .i64 c.ac) ∧ w'.cell? ⟨w.heap.size,4,none⟩ = some (.int .i64 c.th) ∧ w'.cell? ⟨w.heap.size,5,none⟩ = some (.int .i64 c.su) ∧ w'.cell? ⟨w.heap.size,6,none⟩ = some (.slice fa c.fs.length fc) ∧ w'.cell? ⟨w.heap.size,7,none⟩ = some (.slice ma c.ms.length mc) ∧
     w'.cell? ⟨b,o + k * 7,none⟩ = some (.int .i64 x.ac) ∧ w'.cell? ⟨b,o + k * 7 + 1,none⟩ = some (.int .i64 x.nm) ∧ w'.cell? ⟨b,o + k * 7 + 2,none⟩ = some (.int .i64 x.ds) ∧ w'.cell? ⟨b,o + k * 7 + 3,none⟩ = some (.int .i64 x.st) ∧ w'.cell? ⟨b,o + k * 7 + 4,none⟩ = some (.int .i64 x.lc) ∧ w'.cell? ⟨b,o + k * 7 + 5,none⟩ = some (.slice xa x.code.length xc) ∧ w'.cell? ⟨b,o + k * 7 + 6,none⟩ = some (.slice ya x.hs.length yc))
    (first|exact ⟨q0,q1,q2,q3,q4,q5,q6,q7,c0,c1,c2,c3,c4,c5,c6⟩|go_keep)
    (first|(go_at_call 25;refine (HA.out _ BLw).mono ?_;rintro e w2 ⟨rfl,hb2⟩;have hB2 : Below wr.heap.size wr w2:=(by first|exact below_undrew hb2|exact belows (((Below.refl wr.heap.size wr).drew).alloc (by simp) _) hb2 (by simp));(try (have bX:=(L3.BX.new wr.drew #[.string ⟨#[]⟩,.string ⟨#[]⟩,.string ⟨#[]⟩] 44).below hb2 (by simp);have xq0:=bX.cell 0;have xq1:=bX.cell 1;have xq2:=bX.cell 2;have fx0:=bX.frozen 0;have fx1:=bX.frozen 1;have fx2:=bX.frozen 2;have hzx:=bX.sz;simp at xq0 xq1 xq2 fx0 fx1 fx2 hzx));have bN:=(BN1.out.below HJ.out BN1.out.sz).below hB2 (BN1.out.below HJ.out BN1.out.sz).sz;clear p0 p1 p2;have p0:=bN.cell 0;have p1:=bN.cell 1;have p2:=bN.cell 2;have hzq:=bN.sz;simp at p0 p1 p2;have HJ2:=hid (belows HJ.out hB2 HJ.out.size);have bC:=(BC1.out.below HJ.out BC1.out.sz).below hB2 (BC1.out.below HJ.out BC1.out.sz).sz;clear q0 q1 q2 q3 q4 q5 q6 q7 fq0 fq1 fq2 fq3 fq4 fq5 fq6 fq7;(obtain ⟨q0,q1,q2,q3,q4,q5,q6,q7⟩:=bC.cells8);have c0:=(hB2.cell (p:=⟨b,o + k * 7,none⟩) (by simpa using hbb)).trans c0;have c1:=(hB2.cell (p:=⟨b,o + k * 7 + 1,none⟩) (by simpa using hbb)).trans c1;have c2:=(hB2.cell (p:=⟨b,o + k * 7 + 2,none⟩) (by simpa using hbb)).trans c2;have c3:=(hB2.cell (p:=⟨b,o + k * 7 + 3,none⟩) (by simpa using hbb)).trans c3;have c4:=(hB2.cell (p:=⟨b,o + k * 7 + 4,none⟩) (by simpa using hbb)).trans c4;have c5:=(hB2.cell (p:=⟨b,o + k * 7 + 5,none⟩) (by simpa using hbb)).trans c5;have c6:=(hB2.cell (p:=⟨b,o + k * 7 + 6,none⟩) (by simpa using hbb)).trans c6))
   all_goals
    have B12:=HJ2.out
    have hz12:=B12.size
    by_cases hxy : x1 = n1 ∧ x2 = n2
    ·obtain ⟨rfl,rfl⟩:=hxy
     have HF:=hid (HR.out.trans (HY.out ⟨rfl,rfl⟩))
     clear HY HS
     go_wp2
     go_ret
     exact ⟨by rw [HF.out];rfl,(belows HB1.out (show Below W1.heap.size W1 _ from BLw) HB1.out.size)⟩
    ·have HF:=hid (HS.out hxy)
     have hd : x1 ≠ n1 ∨ (x1 = n1 ∧ x2 ≠ n2):=by
      by_cases e1 : x1 = n1
      ·exact .inr ⟨e1,fun e2=>hxy ⟨e1,e2⟩⟩
      ·exact .inl e1
     clear HY HS hxy
     rcases hd with hd|⟨rfl,hd⟩
     all_goals
      have hd1:=str_ne hd
      clear hd
      go_wp2
      go_roundw
      case rel=>exact ⟨k + 1,by omega,by go_num,HF,BLw⟩
      case measure=>simp [intOf];omega
  ·obtain rfl : k = ms.length:=by omega
   have HF : Hid (r = false):=HR.out.trans htk.out
   go_wp2
   go_ret
   exact ⟨by rw [HF.out];rfl,hBr⟩
end Go.Proofs.YtigbaagienjboaaGreatDoor
namespace Go.Proofs.YtigbaagienjboaaGreatDoor
open Go.RowKit
theorem hdE_no {P : List L3.Cp.C} {l : List L1.Op1.Ins} {n : Nat} {h : Cf.Hn} (hn : ¬ (h.f < h.t ∧ Cf.begB l h.f = true ∧ Cf.begB l h.a = true ∧ (Cf.begB l h.t = true ∨ h.t = (n : Int)))) : Cf.hdE P l n h = 46:=by
 unfold Cf.hdE
 rw [if_neg hn]
theorem hdE_yes {P : List L3.Cp.C} {l : List L1.Op1.Ins} {n : Nat} {h : Cf.Hn} (hn : h.f < h.t ∧ Cf.begB l h.f = true ∧ Cf.begB l h.a = true ∧ (Cf.begB l h.t = true ∨ h.t = (n : Int))) : Cf.hdE P l n h = if h.y = 0 then 0 else Cf.claE P h.y:=by
 unfold Cf.hdE
 rw [if_pos hn]
inductive HdC (f t n : Int) (b1 b2 b3 : Bool) : Prop
 | a (h : t ≤ f) : HdC f t n b1 b2 b3
 | b (h : f < t) (h1 : b1 = false) : HdC f t n b1 b2 b3
 | c (h : f < t) (h1 : b1 = true) (h2 : b2 = false) : HdC f t n b1 b2 b3
 | d (h : f < t) (h1 : b1 = true) (h2 : b2 = true) (h3 : b3 = false) (h4 : t ≠ n) : HdC f t n b1 b2 b3
 | e (h : f < t) (h1 : b1 = true) (h2 : b2 = true) (h3 : b3 = true) : HdC f t n b1 b2 b3
 | f (h : f < t) (h1 : b1 = true) (h2 : b2 = true) (h3 : b3 = false) (h4 : t = n) : HdC f t n b1 b2 b3
theorem HdC.all (f t n : Int) (b1 b2 b3 : Bool) : HdC f t n b1 b2 b3:=by
 by_cases h : f < t
 ·cases b1
  ·exact .b h rfl
  ·cases b2
   ·exact .c h rfl rfl
   ·cases b3
    ·by_cases h4 : t = n
     ·exact .f h rfl rfl rfl h4
     ·exact .d h rfl rfl rfl h4
    ·exact .e h rfl rfl rfl
 ·exact .a (by omega)
set_option maxHeartbeats 4000000 in
theorem rcode_any (c : Cf.Cl) (vs : Array Value) (m : Cf.Mb) (cv hv : Value) (w : World) (h : ClR w vs c) (hB : L3.Bs w.heap.size w cv m.code) (hH : Kit.IsS 4 w hv m.hs.length (m.hs.flatMap hL)) (hc : m.code.length ≤ 140737488355328) :
  Calls Tryz.prog 119 #[.agg vs,mbV m cv hv] w fun e w'=>∃ er,Cf.CoIs c.pool m er ∧ e = .returned (.int .i64 er) ∧ Below w.heap.size w w':=by
 have HD:=hid (fun W (k : Below w.heap.size w W)=>L1.rdecode_any m.code cv W (isB_of_bs ((hB.below k (Nat.le_refl _)).mono k.size) hc))
 have HCl0:=fun i W (k : Below w.heap.size w W)=>rclass_any c i vs W (h.below k (Nat.le_refl _))
 have HO:=hid (fun er l d (h1 : L1.Op1.DecOut m.code l d) h2=>(⟨l,d,h1,h2⟩ : Cf.CoIs c.pool m er))
 have HV:=hid (fun W (k : Below w.heap.size w W)=>hH.below k (Nat.le_refl _))
 obtain ⟨pv,fv,mv,rfl,hp,hf,hm⟩:=h
 obtain ⟨pa,pc,rfl⟩:=hp.len
 obtain ⟨fa,fc,rfl⟩:=hf.len
 obtain ⟨ma,mc,rfl⟩:=hm.len
 obtain ⟨xa,xc,rfl⟩:=hB.len
 obtain ⟨ya,yc,rfl⟩:=hH.len
 have hhl:=hH.2.1
 have HCl:=hid HCl0
 obtain ⟨ac,nm,ds,st,lc,co,hs9⟩:=m
 unfold mbV
 dsimp only at HD HO HV hhl ⊢
 unfold L1.DecPost at HD
 clear hp hf hm hB hH hc HCl0
 by_cases h64 : 64 < hs9.length
 ·have d64 : decide (64 < (hs9.length : Int)) = true:=by simp;omega
  have d65 : decide (64 < hs9.length) = true:=by simpa using h64
  go_enter Tryz.func119,Tryz.ntmps119
  go_wp2_with (go_at_call 159;refine (HD.out _ BLw).mono ?_;rintro e w1 ⟨lv,l,d,rfl,hd,ho,hb1⟩;obtain ⟨la,lc2,rfl⟩:=L3.own_form ho;obtain ⟨bP,bM,hzM,B1⟩:=boxes2 hb1;have m5:=bM.cell 5;have m6:=bM.cell 6;simp at m5 m6;have HDd:=hid hd;by_cases hz : d = 0;all_goals (first|(subst hz;have hin:=dec_in hd rfl;have hll:=hin.2.1;have hcl:=hin.2.2;have HIS:=hid (Kit.isS_of_owns ho (by omega));clear hd ho hin)|(have hdd : (d != 0) = true:=(by simpa using hz);have HZ:=hid hz;clear hz hd ho)))
  ·go_ret
   exact ⟨3,HO.out 3 l 0 HDd.out (by rw [if_neg (by decide),if_pos h64]),rfl,B1⟩
  ·go_ret
   exact ⟨d,HO.out d l d HDd.out (by rw [if_pos HZ.out]),rfl,B1⟩
 ·have d64 : decide (64 < (hs9.length : Int)) = false:=by simp;omega
  have d65 : decide (64 < hs9.length) = false:=by simpa using h64
  have H64:=hid h64
  go_enter Tryz.func119,Tryz.ntmps119
  go_wp2_with (go_at_call 159;refine (HD.out _ BLw).mono ?_;rintro e w1 ⟨lv,l,d,rfl,hd,ho,hb1⟩;obtain ⟨la,lc2,rfl⟩:=L3.own_form ho;obtain ⟨bP,bM,hzM,B1⟩:=boxes2 hb1;have m5:=bM.cell 5;have m6:=bM.cell 6;simp at m5 m6;have HDd:=hid hd;by_cases hz : d = 0;all_goals (first|(subst hz;have hin:=dec_in hd rfl;have hll:=hin.2.1;have hcl:=hin.2.2;have HIS:=hid (Kit.isS_of_owns ho (by omega));clear hd ho hin)|(have hdd : (d != 0) = true:=(by simpa using hz);have HZ:=hid hz;clear hz hd ho)))
  rotate_left 1
  ·go_ret
   exact ⟨d,HO.out d l d HDd.out (by rw [if_pos HZ.out]),rfl,B1⟩
  have BP:=hid bP
  have BM:=hid bM
  have BB:=hid B1
  clear bP bM B1 hb1 hzM
  go_loopw [7] (fun i wr=>∃ k : Nat,k ≤ hs9.length ∧ i = .int .i64 k ∧ Below w1.heap.size w1 wr ∧ Hid (∀ j,j < k → Cf.HnIs c.pool l co.length hs9 j 0)) (fun i _=>hs9.length - (intOf i).toNat)
  case atStart=>exact ⟨0,by omega,rfl,Below.refl _ _,fun j hj=>by omega⟩
  case round =>
   obtain ⟨k,hk,rfl,hJ,HAll⟩:=hrel
   have HJ:=hid hJ
   have hBr : Below w.heap.size w wr:=belows BB.out hJ BB.out.size
   have hBM:=BM.out.below hJ BM.out.sz
   have hBP:=BP.out.below hJ BP.out.sz
   have hz1:=hBM.sz
   clear m5 m6
   have m5:=hBM.cell 5
   have m6:=hBM.cell 6
   simp at m5 m6
   by_cases hlt : k < hs9.length
   ·obtain ⟨⟨f,t,a9,y⟩,hx⟩ : ∃ x,hs9[k]? = some x:=⟨hs9[k],List.getElem?_eq_getElem hlt⟩
    obtain ⟨b,o,cap',hv2,hbb,c0,c1,c2,c3⟩:=h_at (HV.out wr hBr) hx
    obtain ⟨rfl,-,rfl⟩:=Value.slice.inj hv2
    have hki : (k : Int) < (hs9.length : Int):=by omega
    dsimp only at c0 c1 c2 c3
    have HR0:=hid (show Cf.HnIs c.pool l co.length hs9 k (Cf.hdE c.pool l co.length ⟨f,t,a9,y⟩) from ⟨_,hx,rfl⟩)
    have HB0':=fun p W (q : Below wr.heap.size wr W)=>rbegins_any l p (.slice la l.length lc2) W ((HIS.out.below hJ (Nat.le_refl _)).below q (Nat.le_refl _))
    have hcase:=HdC.all f t co.length (Cf.begB l f) (Cf.begB l a9) (Cf.begB l t)
    have hyes:=@hdE_yes c.pool l co.length ⟨f,t,a9,y⟩
    have hno:=@hdE_no c.pool l co.length ⟨f,t,a9,y⟩
    have hb1':=HB0' f
    have hb2':=HB0' a9
    have hb3':=HB0' t
    obtain ⟨b1,hb1⟩ : ∃ b,b = Cf.begB l f:=⟨_,rfl⟩
    obtain ⟨b2,hb2⟩ : ∃ b,b = Cf.begB l a9:=⟨_,rfl⟩
    obtain ⟨b3,hb3⟩ : ∃ b,b = Cf.begB l t:=⟨_,rfl⟩
    dsimp only at hyes hno
    rw [← hb1] at hcase hyes hno hb1'
    rw [← hb2] at hcase hyes hno hb2'
    rw [← hb3] at hcase hyes hno hb3'
    clear hb1 hb2 hb3 HB0' hv2 hx hJ
    have bP8:=hBP
    have q0:=hBP.cell 0;have q1:=hBP.cell 1;have q2:=hBP.cell 2;have q3:=hBP.cell 3;have q4:=hBP.cell 4;have q5:=hBP.cell 5;have q6:=hBP.cell 6;have q7:=hBP.cell 7
    simp at q0 q1 q2 q3 q4 q5 q6 q7
    have hzp:=hBP.sz
    have HB1:=hid hb1'
    have HB2:=hid hb2'
    have HB3:=hid hb3'
    clear hBM hBP bP8 hb1' hb2' hb3'
    rcases hcase with h|⟨h,rfl⟩|⟨h,rfl,rfl⟩|⟨h,rfl,rfl,rfl,h4⟩|⟨h,rfl,rfl,rfl⟩|⟨h,rfl,rfl,rfl,h4⟩
    ·have HX:=hid (hno (by rintro ⟨h1,-⟩;omega))
     clear hyes hno
     (go_wp2_with (go_at_call 160;first|((with_reducible refine (HB1.out _ ?_).mono ?_);exact BLw;rintro e w' ⟨rfl,rfl⟩)|((with_reducible refine (HB2.out _ ?_).mono ?_);exact BLw;rintro e w' ⟨rfl,rfl⟩)|((with_reducible refine (HB3.out _ ?_).mono ?_);exact BLw;rintro e w' ⟨rfl,rfl⟩));go_ret;exact ⟨46,HO.out 46 l 0 HDd.out (by rw [if_neg (by decide),if_neg H64.out];exact Cf.FstR.at HAll.out hlt (by have:=HR0.out;rwa [HX.out] at this) (by decide)),rfl,BLw⟩)
    ·have HX:=hid (hno (by simp))
     have hn : ¬ t ≤ f:=by omega
     clear hyes hno
     (go_wp2_with (go_at_call 160;first|((with_reducible refine (HB1.out _ ?_).mono ?_);exact BLw;rintro e w' ⟨rfl,rfl⟩)|((with_reducible refine (HB2.out _ ?_).mono ?_);exact BLw;rintro e w' ⟨rfl,rfl⟩)|((with_reducible refine (HB3.out _ ?_).mono ?_);exact BLw;rintro e w' ⟨rfl,rfl⟩));go_ret;exact ⟨46,HO.out 46 l 0 HDd.out (by rw [if_neg (by decide),if_neg H64.out];exact Cf.FstR.at HAll.out hlt (by have:=HR0.out;rwa [HX.out] at this) (by decide)),rfl,BLw⟩)
    ·have HX:=hid (hno (by simp))
     have hn : ¬ t ≤ f:=by omega
     clear hyes hno
     (go_wp2_with (go_at_call 160;first|((with_reducible refine (HB1.out _ ?_).mono ?_);exact BLw;rintro e w' ⟨rfl,rfl⟩)|((with_reducible refine (HB2.out _ ?_).mono ?_);exact BLw;rintro e w' ⟨rfl,rfl⟩)|((with_reducible refine (HB3.out _ ?_).mono ?_);exact BLw;rintro e w' ⟨rfl,rfl⟩));go_ret;exact ⟨46,HO.out 46 l 0 HDd.out (by rw [if_neg (by decide),if_neg H64.out];exact Cf.FstR.at HAll.out hlt (by have:=HR0.out;rwa [HX.out] at this) (by decide)),rfl,BLw⟩)
    ·have HX:=hid (hno (by simp [h4]))
     have hn : ¬ t ≤ f:=by omega
     have h4d : (t != (co.length : Int)) = true:=by simpa using h4
     clear hyes hno
     (go_wp2_with (go_at_call 160;first|((with_reducible refine (HB1.out _ ?_).mono ?_);exact BLw;rintro e w' ⟨rfl,rfl⟩)|((with_reducible refine (HB2.out _ ?_).mono ?_);exact BLw;rintro e w' ⟨rfl,rfl⟩)|((with_reducible refine (HB3.out _ ?_).mono ?_);exact BLw;rintro e w' ⟨rfl,rfl⟩));go_ret;exact ⟨46,HO.out 46 l 0 HDd.out (by rw [if_neg (by decide),if_neg H64.out];exact Cf.FstR.at HAll.out hlt (by have:=HR0.out;rwa [HX.out] at this) (by decide)),rfl,BLw⟩)
    ·have hx1:=hyes ⟨h,rfl,rfl,.inl rfl⟩
     have hn : ¬ t ≤ f:=by omega
     clear hyes hno
     (by_cases hy : y = 0;(·subst hy;rw [if_pos rfl] at hx1;have HX:=hid hx1;clear hx1;(go_wp2_with (go_at_call 160;first|((with_reducible refine (HB1.out _ ?_).mono ?_);exact BLw;rintro e w' ⟨rfl,rfl⟩)|((with_reducible refine (HB2.out _ ?_).mono ?_);exact BLw;rintro e w' ⟨rfl,rfl⟩)|((with_reducible refine (HB3.out _ ?_).mono ?_);exact BLw;rintro e w' ⟨rfl,rfl⟩)));go_roundw;(case rel=>exact ⟨k + 1,by omega,by go_num,(HJ.out.alloc HJ.out.size _),(fun j hj=>by (by_cases e : j = k;(·subst e;have:=HR0.out;rwa [HX.out] at this);(·exact HAll.out j (by omega))))⟩);(case measure=>simp [intOf];omega));(·rw [if_neg hy] at hx1;have hyd : (y == 0) = false:=(by simpa using hy);have hcl0:=HCl.out y;obtain ⟨ce,hce⟩ : ∃ ce,ce = Cf.claE c.pool y:=⟨_,rfl⟩;rw [← hce] at hx1 hcl0;have HX:=hid hx1;have HC2:=hid hcl0;clear hx1 hcl0 hce hy;by_cases hz : ce = 0;(·subst hz;(go_wp2_with (first|(go_at_call 160;first|((with_reducible refine (HB1.out _ ?_).mono ?_);exact BLw;rintro e w' ⟨rfl,rfl⟩)|((with_reducible refine (HB2.out _ ?_).mono ?_);exact BLw;rintro e w' ⟨rfl,rfl⟩)|((with_reducible refine (HB3.out _ ?_).mono ?_);exact BLw;rintro e w' ⟨rfl,rfl⟩))|(go_at_call 58;refine (HC2.out _ BLw).mono ?_;rintro e W2 ⟨rfl,hb2⟩;obtain ⟨bH,hzH,B2⟩:=belows1 hb2)));go_roundw;(case rel=>exact ⟨k + 1,by omega,by go_num,belows HJ.out B2 HJ.out.size,(fun j hj=>by (by_cases e : j = k;(·subst e;have:=HR0.out;rwa [HX.out] at this);(·exact HAll.out j (by omega))))⟩);(case measure=>simp [intOf];omega));(·have hzd : (ce != 0) = true:=(by simpa using hz);have HZ:=hid hz;clear hz;(go_wp2_with (first|(go_at_call 160;first|((with_reducible refine (HB1.out _ ?_).mono ?_);exact BLw;rintro e w' ⟨rfl,rfl⟩)|((with_reducible refine (HB2.out _ ?_).mono ?_);exact BLw;rintro e w' ⟨rfl,rfl⟩)|((with_reducible refine (HB3.out _ ?_).mono ?_);exact BLw;rintro e w' ⟨rfl,rfl⟩))|(go_at_call 58;refine (HC2.out _ BLw).mono ?_;rintro e W2 ⟨rfl,hb2⟩;obtain ⟨bH,hzH,B2⟩:=belows1 hb2)));go_ret;exact ⟨ce,HO.out ce l 0 HDd.out (by rw [if_neg (by decide),if_neg H64.out];exact Cf.FstR.at HAll.out hlt (by have:=HR0.out;rwa [HX.out] at this) HZ.out),rfl,belows hBr B2 hBr.size⟩)))
    ·have hx1:=hyes ⟨h,rfl,rfl,.inr h4⟩
     have hn : ¬ t ≤ f:=by omega
     have h4d : (t != (co.length : Int)) = false:=by simpa using h4
     clear hyes hno h4
     (by_cases hy : y = 0;(·subst hy;rw [if_pos rfl] at hx1;have HX:=hid hx1;clear hx1;(go_wp2_with (go_at_call 160;first|((with_reducible refine (HB1.out _ ?_).mono ?_);exact BLw;rintro e w' ⟨rfl,rfl⟩)|((with_reducible refine (HB2.out _ ?_).mono ?_);exact BLw;rintro e w' ⟨rfl,rfl⟩)|((with_reducible refine (HB3.out _ ?_).mono ?_);exact BLw;rintro e w' ⟨rfl,rfl⟩)));go_roundw;(case rel=>exact ⟨k + 1,by omega,by go_num,(HJ.out.alloc HJ.out.size _),(fun j hj=>by (by_cases e : j = k;(·subst e;have:=HR0.out;rwa [HX.out] at this);(·exact HAll.out j (by omega))))⟩);(case measure=>simp [intOf];omega));(·rw [if_neg hy] at hx1;have hyd : (y == 0) = false:=(by simpa using hy);have hcl0:=HCl.out y;obtain ⟨ce,hce⟩ : ∃ ce,ce = Cf.claE c.pool y:=⟨_,rfl⟩;rw [← hce] at hx1 hcl0;have HX:=hid hx1;have HC2:=hid hcl0;clear hx1 hcl0 hce hy;by_cases hz : ce = 0;(·subst hz;(go_wp2_with (first|(go_at_call 160;first|((with_reducible refine (HB1.out _ ?_).mono ?_);exact BLw;rintro e w' ⟨rfl,rfl⟩)|((with_reducible refine (HB2.out _ ?_).mono ?_);exact BLw;rintro e w' ⟨rfl,rfl⟩)|((with_reducible refine (HB3.out _ ?_).mono ?_);exact BLw;rintro e w' ⟨rfl,rfl⟩))|(go_at_call 58;refine (HC2.out _ BLw).mono ?_;rintro e W2 ⟨rfl,hb2⟩;obtain ⟨bH,hzH,B2⟩:=belows1 hb2)));go_roundw;(case rel=>exact ⟨k + 1,by omega,by go_num,belows HJ.out B2 HJ.out.size,(fun j hj=>by (by_cases e : j = k;(·subst e;have:=HR0.out;rwa [HX.out] at this);(·exact HAll.out j (by omega))))⟩);(case measure=>simp [intOf];omega));(·have hzd : (ce != 0) = true:=(by simpa using hz);have HZ:=hid hz;clear hz;(go_wp2_with (first|(go_at_call 160;first|((with_reducible refine (HB1.out _ ?_).mono ?_);exact BLw;rintro e w' ⟨rfl,rfl⟩)|((with_reducible refine (HB2.out _ ?_).mono ?_);exact BLw;rintro e w' ⟨rfl,rfl⟩)|((with_reducible refine (HB3.out _ ?_).mono ?_);exact BLw;rintro e w' ⟨rfl,rfl⟩))|(go_at_call 58;refine (HC2.out _ BLw).mono ?_;rintro e W2 ⟨rfl,hb2⟩;obtain ⟨bH,hzH,B2⟩:=belows1 hb2)));go_ret;exact ⟨ce,HO.out ce l 0 HDd.out (by rw [if_neg (by decide),if_neg H64.out];exact Cf.FstR.at HAll.out hlt (by have:=HR0.out;rwa [HX.out] at this) HZ.out),rfl,belows hBr B2 hBr.size⟩)))
   ·obtain rfl : k = hs9.length:=by omega
    have hki : ¬ ((hs9.length : Int) < (hs9.length : Int)):=by omega
    go_wp2
    go_ret
    exact ⟨0,HO.out 0 l 0 HDd.out (by rw [if_neg (by decide),if_neg H64.out];exact Cf.FstR.all HAll.out),rfl,hBr⟩
end Go.Proofs.YtigbaagienjboaaGreatDoor
namespace Go.Proofs.YtigbaagienjboaaGreatDoor
open Go.RowKit
set_option maxHeartbeats 1000000 in
theorem rcodes_any (P : List L3.Cp.C) (v : Value) (w : World) (hv : Kit.IsS 5 w v P.length (P.flatMap L3.cL)) :
  Calls Tryz.prog 50 #[v] w fun e w'=>e = .returned (.int .i64 (Cf.cix P : Nat)) ∧ Below w.heap.size w w':=by
 have HF0:=fun W (k : Below w.heap.size w W)=>(show Calls Tryz.prog 98 #[v,.agg (L3.cC Cf.codeC)] W fun e w'=>e = .returned (.tuple #[.int .i64 (Cf.cix P : Nat),.bool (decide (Cf.cix P ≠ 0))]) ∧ Below W.heap.size W w' from (L3.rfind_any P Cf.codeC v W (hv.below k (Nat.le_refl _))).mono (by
  rintro e w' ⟨r,b,hr,rfl,hb⟩
  obtain ⟨rfl,rfl⟩:=Cf.fi_cix hr
  exact ⟨rfl,hb⟩))
 unfold L3.cC Cf.codeC Cf.codeS at HF0
 dsimp only at HF0
 obtain ⟨n,hn⟩ : ∃ n,n = Cf.cix P:=⟨_,rfl⟩
 rw [← hn] at HF0 ⊢
 obtain ⟨a,cap,rfl⟩:=hv.len
 clear hv hn
 by_cases h0 : n = 0
 ·subst h0
  rw [decide_eq_false (by simp)] at HF0
  have HF:=hid HF0
  clear HF0
  go_enter Tryz.func50,Tryz.ntmps50
  go_wp2_with (go_at_call 98;refine (HF.out _ BLw).mono ?_;rintro e w1 ⟨rfl,hb1⟩)
  go_ret
  exact ⟨rfl,BLw⟩
 ·rw [decide_eq_true h0] at HF0
  have HF:=hid HF0
  clear HF0 h0
  go_enter Tryz.func50,Tryz.ntmps50
  go_wp2_with (go_at_call 98;refine (HF.out _ BLw).mono ?_;rintro e w1 ⟨rfl,hb1⟩)
  go_ret
  exact ⟨rfl,BLw⟩
theorem region_named {P : Program} {id : Nat} {ops : Array Oper} {b : Bool} {Q : Exit → Act → World → Prop} {a : Act} {w : World} (h : ∀ W,W = w → (Code.region id ops b).wp P Q a W) : (Code.region id ops b).wp P Q a w:=h w rfl
set_option maxHeartbeats 1000000 in
theorem rnamed_any (c : Cf.Cl) (vs : Array Value) (m : Cf.Mb) (cv hv : Value) (w : World) (h : ClR w vs c) :
  Calls Tryz.prog 114 #[.agg vs,mbV m cv hv] w fun e w'=>e = .returned (.tuple #[ndV (Cf.nmO c.pool m).1,.int .i64 (Cf.nmO c.pool m).2]) ∧ Below w.heap.size w w':=by
 have HM0:=fun W (k : Below w.heap.size w W)=>rmember_any c vs m cv hv W (h.below k (Nat.le_refl _))
 obtain ⟨pv,fv,mv,rfl,-,-,-⟩:=h
 unfold Cf.nmO
 obtain ⟨⟨⟨n1,n2⟩,er⟩,hx⟩ : ∃ x,x = Cf.mbO c.pool m:=⟨_,rfl⟩
 rw [← hx] at HM0 ⊢
 dsimp only at HM0 ⊢
 have HN0:=fun W=>L2.rmemberName_any n1 W
 obtain ⟨me,hme⟩ : ∃ me,me = L2.memE (L2.Ds.bl n1):=⟨_,rfl⟩
 rw [← hme] at HN0 ⊢
 unfold Cf.accB
 unfold ndV mbV at HM0 ⊢
 have HM:=hid HM0
 have HN:=hid HN0
 obtain ⟨x,hbx⟩ : ∃ x,x = bits .andNot .i64 m.ac 9:=⟨_,rfl⟩
 rw [← hbx]
 have hbx2:=hbx.symm
 clear HM0 HN0 hx hme hbx
 by_cases h1 : (x != 0) = true
 ·rw [if_pos h1]
  go_enter Tryz.func114,Tryz.ntmps114
  go_wp2
  exact bodyPost_ret (v:=.tuple #[.agg #[.string ⟨#[]⟩,.string ⟨#[]⟩,.string ⟨#[]⟩],.int .i64 42]) (by simp [results,Tryz.results114,go_sem]) rfl ⟨rfl,BLw⟩
 ·rw [if_neg h1]
  have h1' : (x != 0) = false:=by simpa using h1
  clear h1
  by_cases h2 : er = 0
  ·subst h2
   rw [if_neg (by decide)]
   go_enter Tryz.func114,Tryz.ntmps114
   go_wp2_with (go_at_call 25;(with_reducible refine (HM.out _ ?_).mono ?_);exact BLw;rintro e w1 ⟨rfl,hb1⟩;obtain ⟨bC,bM,bN,hz1,B1⟩:=boxes3 hb1;have x0:=bN.cell 0;have x1:=bN.cell 1;have x2:=bN.cell 2;have fx0:=bN.frozen 0;have fx1:=bN.frozen 1;have fx2:=bN.frozen 2;simp at x0 x1 x2;have hn1 : ¬ w1.heap.size = w.heap.size + 1 + 1:=(by omega);have hn2 : ¬ w.heap.size + 1 + 1 = w1.heap.size:=(by omega);have hzx : w.heap.size + 1 + 1 < w1.heap.size:=(by omega))
   refine region_named fun W3 hW3=>?_
   have hB3 : Below w1.heap.size w1 W3:=by rw [hW3];exact (Below.refl _ _).alloc (Nat.le_refl _) _
   have bS : L3.BX W3 w1.heap.size #[.string ⟨#[]⟩,.string n1,.string n2] 44:=by rw [hW3];exact L3.BX.new _ _ _
   have bR:=bN.below hB3 bN.sz
   have HB3:=hid (belows B1 hB3 B1.size)
   have BS3:=hid bS
   have BR3:=hid bR
   have hz3:=bS.sz
   clear x0 x1 x2 fx0 fx1 fx2 hW3 hb1 bC bM
   have s0:=bS.cell 0
   have s1:=bS.cell 1
   have s2:=bS.cell 2
   have x0:=bR.cell 0
   have x1:=bR.cell 1
   have x2:=bR.cell 2
   have fx0:=bR.frozen 0
   have fx1:=bR.frozen 1
   have fx2:=bR.frozen 2
   simp at s0 s1 s2 x0 x1 x2
   clear bS bR bN hB3 B1
   go_region_held3 (fun w'=>w'.cell? ⟨w1.heap.size,0,none⟩ = some (.string ⟨#[]⟩) ∧ w'.cell? ⟨w1.heap.size,1,none⟩ = some (.string n1) ∧ w'.cell? ⟨w1.heap.size,2,none⟩ = some (.string n2))
    (first|exact ⟨s0,s1,s2⟩|go_keep)
    (first|(go_at_call 157;refine (HN.out _).mono ?_;rintro e w2 ⟨rfl,hb2⟩;first|(have h2' : Below W3.heap.size W3 w2:=below_undrew hb2;have bS:=BS3.out.below h2' BS3.out.sz;have bR:=BR3.out.below h2' BR3.out.sz;clear s0 s1 s2 x0 x1 x2 fx0 fx1 fx2;have s0:=bS.cell 0;have s1:=bS.cell 1;have s2:=bS.cell 2;have x0:=bR.cell 0;have x1:=bR.cell 1;have x2:=bR.cell 2;have fx0:=bR.frozen 0;have fx1:=bR.frozen 1;have fx2:=bR.frozen 2;simp at s0 s1 s2 x0 x1 x2;have HB4:=hid (belows HB3.out h2' HB3.out.size);have hz4:=bS.sz;have hz5:=bR.sz)|(have r0:=(hb2.cell (p:=⟨w.heap.size + 1 + 1,0,none⟩) (by simp;omega)).trans (show _ = some (.string ⟨#[]⟩) by simp [x0,x1,x2,go_sem]);have r1:=(hb2.cell (p:=⟨w.heap.size + 1 + 1,1,none⟩) (by simp;omega)).trans (show _ = some (.string n1) by simp [x0,x1,x2,go_sem]);have r2:=(hb2.cell (p:=⟨w.heap.size + 1 + 1,2,none⟩) (by simp;omega)).trans (show _ = some (.string n2) by simp [x0,x1,x2,go_sem]);have z0:=(hb2.cell (p:=⟨w1.heap.size,0,none⟩) (by simp;omega)).trans (show _ = some (.string ⟨#[]⟩) by simp [s0,s1,s2,hn1,hn2,go_sem]);have z1:=(hb2.cell (p:=⟨w1.heap.size,1,none⟩) (by simp;omega)).trans (show _ = some (.string n1) by simp [s0,s1,s2,hn1,hn2,go_sem]);have z2:=(hb2.cell (p:=⟨w1.heap.size,2,none⟩) (by simp;omega)).trans (show _ = some (.string n2) by simp [s0,s1,s2,hn1,hn2,go_sem]);clear s0 s1 s2 x0 x1 x2 fx0 fx1 fx2;have s0:=z0;have s1:=z1;have s2:=z2;have x0:=r0;have x1:=r1;have x2:=r2;have B3:=HB3.out;have HB4:=hid (belows (show Below w.heap.size w _ from BLw) hb2 (by simp;omega)))))
   have B4:=HB4.out
   have hz6:=B4.size
   go_wp2
   exact bodyPost_ret (v:=.tuple #[.agg #[.string ⟨#[]⟩,.string n1,.string n2],.int .i64 me]) (by simp [results,Tryz.results114,go_sem,x0,x1,x2,hn1,hn2,hzx]) rfl ⟨rfl,BLw⟩
  ·rw [if_pos h2]
   have hd : (er != 0) = true:=by simpa using h2
   clear h2
   go_enter Tryz.func114,Tryz.ntmps114
   go_wp2_with (go_at_call 25;(with_reducible refine (HM.out _ ?_).mono ?_);exact BLw;rintro e w1 ⟨rfl,hb1⟩;obtain ⟨bC,bM,bN,hz1,B1⟩:=boxes3 hb1;have x0:=bN.cell 0;have x1:=bN.cell 1;have x2:=bN.cell 2;have fx0:=bN.frozen 0;have fx1:=bN.frozen 1;have fx2:=bN.frozen 2;simp at x0 x1 x2;have hn1 : ¬ w1.heap.size = w.heap.size + 1 + 1:=(by omega);have hn2 : ¬ w.heap.size + 1 + 1 = w1.heap.size:=(by omega);have hzx : w.heap.size + 1 + 1 < w1.heap.size:=(by omega))
   exact bodyPost_ret (v:=.tuple #[.agg #[.string ⟨#[]⟩,.string ⟨#[]⟩,.string ⟨#[]⟩],.int .i64 er]) (by simp [results,Tryz.results114,go_sem,x0,x1,x2,hn1,hn2,hzx]) rfl ⟨rfl,BLw⟩
end Go.Proofs.YtigbaagienjboaaGreatDoor
