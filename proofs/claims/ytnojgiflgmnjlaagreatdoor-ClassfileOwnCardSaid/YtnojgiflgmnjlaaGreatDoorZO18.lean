/- Own texts for the claim, part 18. -/
import Derived.Test.YtnojgiflgmnjlaaGreatDoorZO17
import Derived.Test.YtnojgiflgmnjlaaGreatDoorCards
import Derived.Test.YtnojgiflgmnjlaaGreatDoorTie
import Derived.Deep.DeepHandedRow
import Derived.Lib.LaidTab
import Derived.Lib.LaidIn
import Derived.Lib.LaidU8
import Derived.Stop.LaidErr
import Derived.Deep.RegionHeld3
set_option maxRecDepth 100000
namespace Go.Proofs.YtnojgiflgmnjlaaGreatDoor
open Go.RowKit
theorem ask0_any (c : Cf.Cl) (vs : Array Value) (cb : Nat) (w : World) (hk : Ck w c) (h : ClR w vs c) (hx : L3.BX w cb vs 26) :
  Calls Tryz.prog 56 #[.func (.func 51) #[] #[],.pointer (some ⟨cb,0,none⟩)] w fun e w'=>∃ er,Cf.AskIs c 0 er ∧ e = .returned (.int .i64 er) ∧ Below w.heap.size w w':=by
 have HC:=hid (show Calls Tryz.prog 51 #[.agg vs] w fun e w'=>∃ er,Cf.AskIs c 0 er ∧ e = .returned (.int .i64 er) ∧ Below w.heap.size w w' from checkHead_any c vs w hk.t3 h hk.ps)
 obtain ⟨pv,fv,mv,rfl,hp,hf,hm⟩:=h
 have q0:=hx.cell 0
 have q1:=hx.cell 1
 have q2:=hx.cell 2
 have q3:=hx.cell 3
 have q4:=hx.cell 4
 have q5:=hx.cell 5
 have q6:=hx.cell 6
 have q7:=hx.cell 7
 simp at q0 q1 q2 q3 q4 q5 q6 q7
 clear hp hf hm hx hk
 go_enter Tryz.func56,Tryz.ntmps56
 go_wp2_with (go_at_call 51;refine HC.out.mono ?_;rintro e w1 ⟨er,hR,rfl,hb⟩)
 go_ret
 exact ⟨er,hR,rfl,hb⟩
theorem ask1_any (c : Cf.Cl) (vs : Array Value) (cb : Nat) (w : World) (hk : Ck w c) (h : ClR w vs c) (hx : L3.BX w cb vs 26) :
  Calls Tryz.prog 56 #[.func (.func 52) #[] #[],.pointer (some ⟨cb,0,none⟩)] w fun e w'=>∃ er,Cf.AskIs c 1 er ∧ e = .returned (.int .i64 er) ∧ Below w.heap.size w w':=by
 have HC:=hid (show Calls Tryz.prog 52 #[.agg vs] w fun e w'=>∃ er,Cf.AskIs c 1 er ∧ e = .returned (.int .i64 er) ∧ Below w.heap.size w w' from checkFields_any c vs w h hk.ps)
 obtain ⟨pv,fv,mv,rfl,hp,hf,hm⟩:=h
 have q0:=hx.cell 0
 have q1:=hx.cell 1
 have q2:=hx.cell 2
 have q3:=hx.cell 3
 have q4:=hx.cell 4
 have q5:=hx.cell 5
 have q6:=hx.cell 6
 have q7:=hx.cell 7
 simp at q0 q1 q2 q3 q4 q5 q6 q7
 clear hp hf hm hx hk
 go_enter Tryz.func56,Tryz.ntmps56
 go_wp2_with (go_at_call 52;refine HC.out.mono ?_;rintro e w1 ⟨er,hR,rfl,hb⟩)
 go_ret
 exact ⟨er,hR,rfl,hb⟩
theorem ask2_any (c : Cf.Cl) (vs : Array Value) (cb : Nat) (w : World) (hk : Ck w c) (h : ClR w vs c) (hx : L3.BX w cb vs 26) :
  Calls Tryz.prog 56 #[.func (.func 53) #[] #[],.pointer (some ⟨cb,0,none⟩)] w fun e w'=>∃ er,Cf.AskIs c 2 er ∧ e = .returned (.int .i64 er) ∧ Below w.heap.size w w':=by
 have HC:=hid (show Calls Tryz.prog 53 #[.agg vs] w fun e w'=>∃ er,Cf.AskIs c 2 er ∧ e = .returned (.int .i64 er) ∧ Below w.heap.size w w' from checkMethods_any c vs w h hk.ps hk.t1)
 obtain ⟨pv,fv,mv,rfl,hp,hf,hm⟩:=h
 have q0:=hx.cell 0
 have q1:=hx.cell 1
 have q2:=hx.cell 2
 have q3:=hx.cell 3
 have q4:=hx.cell 4
 have q5:=hx.cell 5
 have q6:=hx.cell 6
 have q7:=hx.cell 7
 simp at q0 q1 q2 q3 q4 q5 q6 q7
 clear hp hf hm hx hk
 go_enter Tryz.func56,Tryz.ntmps56
 go_wp2_with (go_at_call 53;refine HC.out.mono ?_;rintro e w1 ⟨er,hR,rfl,hb⟩)
 go_ret
 exact ⟨er,hR,rfl,hb⟩
theorem ask3_any (c : Cf.Cl) (vs : Array Value) (cb : Nat) (w : World) (hk : Ck w c) (h : ClR w vs c) (hx : L3.BX w cb vs 26) :
  Calls Tryz.prog 56 #[.func (.func 54) #[] #[],.pointer (some ⟨cb,0,none⟩)] w fun e w'=>∃ er,Cf.AskIs c 3 er ∧ e = .returned (.int .i64 er) ∧ Below w.heap.size w w':=by
 have HC:=hid (show Calls Tryz.prog 54 #[.agg vs] w fun e w'=>∃ er,Cf.AskIs c 3 er ∧ e = .returned (.int .i64 er) ∧ Below w.heap.size w w' from checkCodeName_any c vs w h hk.pl)
 obtain ⟨pv,fv,mv,rfl,hp,hf,hm⟩:=h
 have q0:=hx.cell 0
 have q1:=hx.cell 1
 have q2:=hx.cell 2
 have q3:=hx.cell 3
 have q4:=hx.cell 4
 have q5:=hx.cell 5
 have q6:=hx.cell 6
 have q7:=hx.cell 7
 simp at q0 q1 q2 q3 q4 q5 q6 q7
 clear hp hf hm hx hk
 go_enter Tryz.func56,Tryz.ntmps56
 go_wp2_with (go_at_call 54;refine HC.out.mono ?_;rintro e w1 ⟨er,hR,rfl,hb⟩)
 go_ret
 exact ⟨er,hR,rfl,hb⟩
theorem ask_any (c : Cf.Cl) (vs : Array Value) (cb : Nat) (i : Nat) (hi : i < 4) (w : World) (hk : Ck w c) (h : ClR w vs c) (hx : L3.BX w cb vs 26) :
  Calls Tryz.prog 56 #[askF i,.pointer (some ⟨cb,0,none⟩)] w fun e w'=>∃ er,Cf.AskIs c i er ∧ e = .returned (.int .i64 er) ∧ Below w.heap.size w w':=by
 match i,hi with
 | 0,_=>exact ask0_any c vs cb w hk h hx
 | 1,_=>exact ask1_any c vs cb w hk h hx
 | 2,_=>exact ask2_any c vs cb w hk h hx
 | 3,_=>exact ask3_any c vs cb w hk h hx
set_option maxHeartbeats 2000000 in
theorem firstC_any (c : Cf.Cl) (vs : Array Value) (cb sb : Nat) (w : World) (hk : Ck w c) (h : ClR w vs c) (hx : L3.BX w cb vs 26) (hs : L3.BX w sb #[askF 0,askF 1,askF 2,askF 3] 35) :
  Calls Tryz.prog 55 #[.slice (some ⟨sb,0,none⟩) 4 4,.func (.func 56) #[] #[.pointer (some ⟨cb,0,none⟩)]] w fun e w'=>∃ er,Cf.ClIs c er ∧ e = .returned (.int .i64 er) ∧ Below w.heap.size w w':=by
 have HA:=hid (fun i hi W (k : Below w.heap.size w W)=>ask_any c vs cb i hi W (hk.below k) (h.below k (Nat.le_refl _)) (hx.below k hx.sz))
 have HS:=hid (fun W (k : Below w.heap.size w W) (j : Nat)=>(k.cell (p:=⟨sb,j,none⟩) (by simpa using hs.sz)).trans (hs.cell j))
 unfold Cf.ClIs
 clear hk h hx hs
 go_enter Tryz.func55,Tryz.ntmps55
 go_wp2
 go_loopw [10] (fun i wr=>∃ k : Nat,k ≤ 4 ∧ i = .int .i64 k ∧ Below w.heap.size w wr ∧ ∀ j,j < k → Cf.AskIs c j 0) (fun i _=>4 - (intOf i).toNat)
 case atStart=>exact ⟨0,by omega,rfl,BLw,fun j hj=>by omega⟩
 case round =>
  obtain ⟨k,hk,rfl,hJ,hall⟩:=hrel
  have HAll:=hid hall
  have hzw:=hJ.size
  by_cases hlt : k < 4
  ·have c0:=HS.out wr hJ k
   have hc : (#[askF 0,askF 1,askF 2,askF 3] : Array Value)[k]? = some (askF k):=by
    match k,hlt with
    | 0,_|1,_|2,_|3,_=>rfl
   rw [hc] at c0
   have HA1:=hid (HA.out k hlt wr hJ)
   have hki : (k : Int) < 4:=by omega
   obtain ⟨fv,hfv⟩ : ∃ fv,fv = askF k:=⟨_,rfl⟩
   rw [← hfv] at c0 HA1
   clear hc hfv hall
   go_wp2_with (go_at_call 56;refine HA1.out.mono ?_;rintro e W1 ⟨er,hR,rfl,hb1⟩;have HR:=hid hR;have B1:=belows hJ hb1 hzw;by_cases hz : er = 0;all_goals (first|(subst hz;clear hR)|(have hd : (er != 0) = true:=(by simpa using hz);have HZ:=hid hz;clear hz hR)))
   ·go_roundw
    case rel=>exact ⟨k + 1,by omega,by go_num,B1,fun j hj=>by
     by_cases e : j = k
     ·subst e;exact HR.out
     ·exact HAll.out j (by omega)⟩
    case measure=>simp [intOf];omega
   ·go_ret
    exact ⟨er,Cf.FstR.at HAll.out hlt HR.out HZ.out,rfl,B1⟩
  ·obtain rfl : k = 4:=by omega
   have hb:=hJ
   clear hall
   go_wp2
   go_ret
   exact ⟨0,Cf.FstR.all HAll.out,rfl,hb⟩
set_option maxHeartbeats 1000000 in
theorem check_any (c : Cf.Cl) (vs : Array Value) (w : World) (hk : Ck w c) (h : ClR w vs c) :
  Calls Tryz.prog 17 #[.agg vs] w fun e w'=>∃ er,Cf.ClIs c er ∧ e = .returned (.int .i64 er) ∧ Below w.heap.size w w':=by
 have HF:=hid (fun W (k : Below w.heap.size w W) hx hs=>firstC_any c vs w.heap.size (w.heap.size + 1) W (hk.below k) (h.below k (Nat.le_refl _)) hx hs)
 have hcl:=h
 obtain ⟨pv,fv,mv,rfl,hp,hf,hm⟩:=h
 have hmf:=L3.A.mkF
 have hB : Below w.heap.size w ((w.alloc (.cells #[.int .i64 c.mi,.int .i64 c.ma,pv,.int .i64 c.ac,.int .i64 c.th,.int .i64 c.su,fv,mv] 26)).alloc (.cells #[askF 0,askF 1,askF 2,askF 3] 35)):=BLw
 have hx:=(L3.BX.new w #[.int .i64 c.mi,.int .i64 c.ma,pv,.int .i64 c.ac,.int .i64 c.th,.int .i64 c.su,fv,mv] 26).below (n:=w.heap.size + 1) (w':=(w.alloc (.cells #[.int .i64 c.mi,.int .i64 c.ma,pv,.int .i64 c.ac,.int .i64 c.th,.int .i64 c.su,fv,mv] 26)).alloc (.cells #[askF 0,askF 1,askF 2,askF 3] 35)) ((Below.refl _ _).alloc (by simp) _) (by omega)
 have hs : L3.BX ((w.alloc (.cells #[.int .i64 c.mi,.int .i64 c.ma,pv,.int .i64 c.ac,.int .i64 c.th,.int .i64 c.su,fv,mv] 26)).alloc (.cells #[askF 0,askF 1,askF 2,askF 3] 35)) (w.heap.size + 1) #[askF 0,askF 1,askF 2,askF 3] 35:=by
  have:=L3.BX.new (w.alloc (.cells #[.int .i64 c.mi,.int .i64 c.ma,pv,.int .i64 c.ac,.int .i64 c.th,.int .i64 c.su,fv,mv] 26)) #[askF 0,askF 1,askF 2,askF 3] 35
  simpa using this
 have H2:=hid (HF.out _ hB hx hs)
 unfold askF at H2
 have HB:=hid hB
 clear HF hk hcl hp hf hm hx hs hB
 go_enter Tryz.func17,Tryz.ntmps17
 go_wp2_with (go_at_call 55;refine H2.out.mono ?_;rintro e W1 ⟨er,hR,rfl,hb1⟩)
 go_ret
 exact ⟨er,hR,rfl,belows HB.out hb1 HB.out.size⟩
end Go.Proofs.YtnojgiflgmnjlaaGreatDoor
namespace Go.Proofs.YtnojgiflgmnjlaaGreatDoor
open Go.RowKit
def CdPost (c : Cf.Cl) (vs : Array Value) (w : World) (e : Ending) (w' : World) : Prop :=
 ((Cf.ClIs c 0 ∧ e = .returned (.tuple #[.agg vs,.int .i64 0])) ∨ ∃ er,er ≠ 0 ∧ Cf.ClIs c er ∧ e = .returned (.tuple #[K0V,.int .i64 er])) ∧ Below w.heap.size w w'
set_option maxHeartbeats 1000000 in
theorem checked_any (c : Cf.Cl) (vs : Array Value) (w : World) (hk : Ck w c) (h : ClR w vs c) :
  Calls Tryz.prog 35 #[.agg vs] w (CdPost c vs w):=by
 have HC:=hid (fun W (k : Below w.heap.size w W)=>check_any c vs W (hk.below k) (h.below k (Nat.le_refl _)))
 obtain ⟨pv,fv,mv,rfl,hp,hf,hm⟩:=h
 obtain ⟨pa,pc,rfl⟩:=hp.len
 obtain ⟨fa,fc,rfl⟩:=hf.len
 obtain ⟨ma2,mc,rfl⟩:=hm.len
 unfold CdPost K0V
 clear hk hp hf hm
 go_enter Tryz.func35,Tryz.ntmps35
 go_wp2_with (go_at_call 17;(with_reducible refine (HC.out _ ?_).mono ?_);exact BLw;rintro e w1 ⟨er,hR,rfl,hb1⟩;obtain ⟨bC,bN,hzC,B1⟩:=boxes2 hb1;have HR:=hid hR;have q0:=bC.cell 0;have q1:=bC.cell 1;have q2:=bC.cell 2;have q3:=bC.cell 3;have q4:=bC.cell 4;have q5:=bC.cell 5;have q6:=bC.cell 6;have q7:=bC.cell 7;have n0:=bN.cell 0;have n1:=bN.cell 1;have n2:=bN.cell 2;have n3:=bN.cell 3;have n4:=bN.cell 4;have n5:=bN.cell 5;have n6:=bN.cell 6;have n7:=bN.cell 7;have f0:=bN.frozen 0;have f1:=bN.frozen 1;have f2:=bN.frozen 2;have f3:=bN.frozen 3;have f4:=bN.frozen 4;have f5:=bN.frozen 5;have f6:=bN.frozen 6;have f7:=bN.frozen 7;simp at q0 q1 q2 q3 q4 q5 q6 q7 n0 n1 n2 n3 n4 n5 n6 n7;clear hb1 bC bN;by_cases hz : er = 0;all_goals (first|(subst hz;clear hR)|(have hd : (er != 0) = true:=(by simpa using hz);have HZ:=hid hz;clear hz hR)))
 ·exact bodyPost_ret (v:=.tuple #[.agg #[.int .i64 c.mi,.int .i64 c.ma,.slice pa c.pool.length pc,.int .i64 c.ac,.int .i64 c.th,.int .i64 c.su,.slice fa c.fs.length fc,.slice ma2 c.ms.length mc],.int .i64 0]) (by simp [results,Tryz.results35,go_sem,n0,n1,n2,n3,n4,n5,n6,n7]) rfl ⟨.inl ⟨HR.out,rfl⟩,BLw⟩
 ·exact bodyPost_ret (v:=.tuple #[.agg #[.int .i64 0,.int .i64 0,.slice none 0 0,.int .i64 0,.int .i64 0,.int .i64 0,.slice none 0 0,.slice none 0 0],.int .i64 er]) (by simp [results,Tryz.results35,go_sem,n0,n1,n2,n3,n4,n5,n6,n7]) rfl ⟨.inr ⟨er,HZ.out,HR.out,rfl⟩,BLw⟩
theorem k0_reads (w : World) : ClR w #[.int .i64 0,.int .i64 0,.slice none 0 0,.int .i64 0,.int .i64 0,.int .i64 0,.slice none 0 0,.slice none 0 0] Cf.K0 :=
 ⟨_,_,_,rfl,⟨rfl,by simp [Cf.K0],.inl ⟨rfl,none,0,rfl⟩⟩,⟨[],trivial,rfl,by simp [Cf.K0],.inl ⟨rfl,none,0,rfl⟩⟩,⟨[],trivial,rfl,by simp [Cf.K0],.inl ⟨rfl,none,0,rfl⟩⟩⟩
theorem pool_small {l : List L3.Cp.C} (h : L3.CkIs l 0) : ∀ c ∈ l,c.s.size ≤ 255:=by
 intro c hc
 obtain ⟨i,hi⟩:=List.mem_iff_getElem?.1 hc
 have hlt : i < l.length:=(List.getElem?_eq_some_iff.1 hi).1
 have h2:=(L3.ck_all.1 h).2 i hlt
 unfold L3.errAt at h2
 rw [hi] at h2
 dsimp only at h2
 by_cases hp : L3.prevB l i = true
 ·rw [if_pos hp] at h2
  by_cases h0 : c = L3.Cp.C0
  ·subst h0;show (⟨#[]⟩ : ByteArray).size ≤ 255;decide
  ·rw [if_neg h0] at h2;omega
 ·rw [if_neg hp] at h2
  by_cases hl : c.t = 5 ∧ i = l.length - 1
  ·rw [if_pos hl] at h2;omega
  ·rw [if_neg hl] at h2
   exact (L3.ce_size h2).2.2.1
theorem Cf.bnd_inv {α β : Type} {x : Cf.Ps α} {f : α → Cf.Ps β} {l : List UInt8} {y : β × List UInt8} (h : Cf.bnd x f l = .ok y) : ∃ a r,x l = .ok (a,r) ∧ f a r = .ok y:=by
 unfold Cf.bnd at h
 cases hx : x l with
 | error e=>rw [hx] at h;cases h
 | ok z=>obtain ⟨a,r⟩:=z;rw [hx] at h;exact ⟨a,r,rfl,h⟩
theorem cl_pool {bs r : List UInt8} {c : Cf.Cl} (h : Cf.clP bs = .ok (c,r)) : L3.CkIs c.pool 0 ∧ (∀ x ∈ c.pool,L3.I6 x.n):=by
 unfold Cf.clP at h
 obtain ⟨_,_,-,h⟩:=Cf.bnd_inv h
 obtain ⟨_,_,-,h⟩:=Cf.bnd_inv h
 obtain ⟨_,_,-,h⟩:=Cf.bnd_inv h
 obtain ⟨_,_,-,h⟩:=Cf.bnd_inv h
 obtain ⟨_,_,-,h⟩:=Cf.bnd_inv h
 obtain ⟨P,_,hP,h⟩:=Cf.bnd_inv h
 obtain ⟨_,_,-,h⟩:=Cf.bnd_inv h
 obtain ⟨_,_,-,h⟩:=Cf.bnd_inv h
 obtain ⟨_,_,-,h⟩:=Cf.bnd_inv h
 obtain ⟨_,_,-,h⟩:=Cf.bnd_inv h
 obtain ⟨_,_,-,h⟩:=Cf.bnd_inv h
 obtain ⟨_,_,-,h⟩:=Cf.bnd_inv h
 obtain ⟨_,_,-,h⟩:=Cf.bnd_inv h
 obtain ⟨_,_,-,h⟩:=Cf.bnd_inv h
 have e:=Prod.mk.inj (Except.ok.inj h)
 rw [← e.1]
 have hf:=L3.pl_forth hP
 exact ⟨hf.1,hf.2.1⟩
end Go.Proofs.YtnojgiflgmnjlaaGreatDoor
namespace Go.Proofs.YtnojgiflgmnjlaaGreatDoor
open Go.ChangeShapes Go.WideShapes Go.ChangeAt Go.RowKit
theorem own : ownKnob Tryz.prog.godebug = none:=by kernel_rfl
theorem gForms : Tryz.prog.globalNamed "tabard/opcode.forms" = some 5:=by kernel_rfl
theorem gBehind : Tryz.prog.globalNamed "tabard/opcode.behind" = some 1:=by kernel_rfl
theorem tForms : (Tryz.prog.globals[5]?).map (·.type) = some 247:=by kernel_rfl
theorem tBehind : (Tryz.prog.globals[1]?).map (·.type) = some 232:=by kernel_rfl
theorem cellsForms : Tryz.prog.cellsOf 247 = 200:=by kernel_rfl
theorem cellsBehind : Tryz.prog.cellsOf 232 = 9:=by kernel_rfl
theorem cellsByte : Tryz.prog.cellsOf 5 = 1:=by kernel_rfl
def formInts : List Int:=L1.Op1.forms.map fun n : Nat=>(n : Int)
def behindInts : List Int:=L1.Op1.behinds.map fun n : Nat=>(n : Int)
theorem gTags : Tryz.prog.globalNamed "tabard/cpool.tags" = some 0:=by kernel_rfl
theorem tTags : (Tryz.prog.globals[0]?).map (·.type) = some 205:=by kernel_rfl
theorem cellsW : Tryz.prog.cellsOf 169 = 4:=by kernel_rfl
theorem cellsI : Tryz.prog.cellsOf 3 = 1:=by kernel_rfl
def wdI (k : Nat) : List Int:=[((L3.Cp.wd k).1 : Int),(L3.Cp.wd k).2.1,(L3.Cp.wd k).2.2.1,(L3.Cp.wd k).2.2.2]
def tagData : DataW Unit:=.agg ((List.range 13).map fun k=>.agg ((wdI k).map fun z=>.lit (.int .i64 z)))
def laidL : List (String × DataW Unit):=[("unicode/utf8.acceptRanges",Rows.laid_unicode_utf8_acceptRanges),("tabard/cpool.tags",Rows.laid_tabard_cpool_tags),("tabard/opcode.forms",Rows.laid_tabard_opcode_forms),("tabard/opcode.behind",Rows.laid_tabard_opcode_behind),("unicode/utf8.first",Rows.laid_unicode_utf8_first)]
theorem laid_eq : laidL = [("unicode/utf8.acceptRanges",Rows.laid_unicode_utf8_acceptRanges),("tabard/cpool.tags",tagData),("tabard/opcode.forms",Lib.tabData .u8 formInts),("tabard/opcode.behind",Lib.tabData .u8 behindInts),("unicode/utf8.first",Rows.laid_unicode_utf8_first)]:=by kernel_rfl
theorem tabs1_of_laid {W : World} (h : laidMet Tryz.prog laidL W) : L1.Tabs W:=by
 rw [laid_eq] at h
 have h1 : Lib.TabIs Tryz.prog W "tabard/opcode.forms" .u8 formInts:=Lib.tabIs_of_head gForms tForms Tryz.underlying247 Tryz.underlying5 cellsByte cellsForms h.tail.tail
 have h2 : Lib.TabIs Tryz.prog W "tabard/opcode.behind" .u8 behindInts:=Lib.tabIs_of_head gBehind tBehind Tryz.underlying232 Tryz.underlying5 cellsByte cellsBehind h.tail.tail.tail
 have l1 : formInts.length = 200:=by kernel_rfl
 have l2 : behindInts.length = 9:=by kernel_rfl
 have c1 : ∀ k,k < 200 → W.cell? ⟨5,k,none⟩ = some (.int .u8 (L1.Op1.forms.getD k 0 : Nat)):=fun k hk=>by
  rw [h1.cell gForms k (by omega)]
  have : formInts.getD k 0 = ((L1.Op1.forms.getD k 0 : Nat) : Int):=(show ∀ k,k < 200 → formInts.getD k 0 = ((L1.Op1.forms.getD k 0 : Nat) : Int) by decide +kernel) k hk
  rw [this]
 have c2 : ∀ k,k < 9 → W.cell? ⟨1,k,none⟩ = some (.int .u8 (L1.Op1.behinds.getD k 0 : Nat)):=fun k hk=>by
  rw [h2.cell gBehind k (by omega)]
  have : behindInts.getD k 0 = ((L1.Op1.behinds.getD k 0 : Nat) : Int):=(show ∀ k,k < 9 → behindInts.getD k 0 = ((L1.Op1.behinds.getD k 0 : Nat) : Int) by decide +kernel) k hk
  rw [this]
 exact ⟨⟨World.block_lt_of_cell? W _ (c1 0 (by omega)),World.block_lt_of_cell? W _ (c2 0 (by omega))⟩,c1,c2⟩
theorem tabs3_of_laid {W : World} (h : laidMet Tryz.prog laidL W) : L3.Tabs W:=by
 rw [laid_eq] at h
 obtain ⟨g,t,cs,fuel,p,hg,hty,hvar,hd⟩:=Lib.laidMet.reads h (n := "tabard/cpool.tags") (d:=tagData) (by simp)
 obtain rfl:=Option.some.inj (gTags.symm.trans hg)
 obtain rfl:=Option.some.inj (tTags.symm.trans hty)
 have key : ∀ k,k < 13 → ∀ j z,(wdI k)[j]? = some z → W.cell? ⟨0,k * 4 + j,none⟩ = some (.int .i64 z):=by
  intro k hk j z hz
  obtain ⟨fuel',d,q,hdi,he⟩:=Lib.array_elem Tryz.underlying205 hd k hk
  simp only [List.getElem?_map,List.getElem?_range hk,Option.map_some,Option.some.injEq] at hdi
  subst hdi
  rw [cellsW] at he
  have hcs:=Lib.ints_of_struct Tryz.underlying169 (fun j f hj=>by
   match j,hj with
   | 0,hj=>simp at hj;subst hj;exact ⟨Tryz.underlying3,rfl,cellsI⟩
   | 1,hj=>simp at hj;subst hj;exact ⟨Tryz.underlying3,rfl,cellsI⟩
   | 2,hj=>simp at hj;subst hj;exact ⟨Tryz.underlying3,rfl,cellsI⟩
   | 3,hj=>simp at hj;subst hj;exact ⟨Tryz.underlying3,rfl,cellsI⟩
   | j + 4,hj=>simp at hj) (by rw [cellsW];rfl) he
  have hj4 : j < 4:=by rw [List.getElem?_eq_some_iff] at hz;exact hz.1
  have e0:=congrArg (·[j]?) hcs
  simp only [List.getElem?_take_of_lt hj4,List.getElem?_drop,List.getElem?_map,hz,Option.map_some] at e0
  rw [World.var?_cell hg hvar (k * 4 + j),← Array.getElem?_toList]
  exact e0
 refine ⟨World.block_lt_of_cell? W _ (key 0 (by omega) 0 _ rfl),fun k hk=>⟨?_,?_,?_,?_⟩⟩
 ·exact key k hk 0 _ rfl
 ·exact key k hk 1 _ rfl
 ·exact key k hk 2 _ rfl
 ·exact key k hk 3 _ rfl
def putCells (cs : Array Value) : Obj → Obj
 | .cells _ t frozen=>.cells cs t frozen
 | o=>o
noncomputable def laidWorld (os : Os) : World :=
 { World.holding Tryz.prog os ⟨#[],#[],[]⟩ with
  heap:=(((((World.holding Tryz.prog os ⟨#[],#[],[]⟩).heap.modify 0 (putCells ((List.range 13).flatMap fun k=>(wdI k).map fun z=>Value.int .i64 z).toArray)).modify 5 (putCells (formInts.map fun z=>Value.int .u8 z).toArray)).modify 1 (putCells (behindInts.map fun z=>Value.int .u8 z).toArray)).modify 2 (putCells (Lib.firstTab.map fun z=>Value.int .u8 z).toArray)).modify 3 (putCells ((List.range 16).flatMap fun i=>[Value.int .u8 (Lib.accLo i),Value.int .u8 (Lib.accHi i)]).toArray) }
section
variable {H : Type} {enc : TypeId × Value → H}
theorem weights_eachT {P : Program} : ∀ {ts : List TypeId} {ds : List (DataW H)} {j : Nat} {t : TypeId} {d : DataW H},ts[j]? = some t → ds[j]? = some d → (DataW.weightsEach P ts ds).all (·≤ reachBytes) = true → (d.weights P t).all (·≤ reachBytes) = true
 | [],_,_,_,_,h,_,_=>by simp at h
 | _ :: _,[],_,_,_,_,h,_=>by simp at h
 | t :: ts,d :: ds,0,_,_,h1,h2,h=>by
  simp only [List.getElem?_cons_zero,Option.some.injEq] at h1 h2
  subst h1 h2
  simp only [DataW.weightsEach,List.all_append,Bool.and_eq_true] at h
  exact h.1
 | t :: ts,d :: ds,j + 1,_,_,h1,h2,h=>by
  simp only [DataW.weightsEach,List.all_append,Bool.and_eq_true] at h
  exact weights_eachT (j:=j) (by simpa using h1) (by simpa using h2) h.2
end
end Go.Proofs.YtnojgiflgmnjlaaGreatDoor
namespace Go.Proofs.YtnojgiflgmnjlaaGreatDoor
open Go Go.RowKit
structure Shp (B : Nat) (W W' : World) : Prop where
 bel : Below B W W'
 int : ∀ p κ a,W.cell? p = some (.int κ a) → ∃ a',W'.cell? p = some (.int κ a')
 any : ∀ p v,W.cell? p = some v → (∀ κ a,v ≠ .int κ a) → W'.cell? p = some v
 frz : ∀ p : Addr,p.block < W.heap.size → W'.frozen? p = W.frozen? p
theorem Shp.refl (B : Nat) (W : World) : Shp B W W:=⟨Below.refl _ _,fun _ _ a h=>⟨a,h⟩,fun _ _ h _=>h,fun _ _=>rfl⟩
theorem Shp.set {B : Nat} {W W' : World} (h : Shp B W W') {p : Addr} (hp : B ≤ p.block) {κ : IntKind} {a : Int} (hc : W'.cell? p = some (.int κ a)) (b : Int) : Shp B W (W'.setCell p (.int κ b)):=by
 refine ⟨h.bel.setCell hp _,fun q κ' a' hq=>?_,fun q v hq hv=>?_,fun q hq=>?_⟩
 ·obtain ⟨x,hx⟩:=h.int q κ' a' hq
  by_cases e : p = q
  ·subst e
   rw [hc] at hx
   cases hx
   exact ⟨b,World.cell?_setCell_same W' p _ hc⟩
  ·exact ⟨x,(World.cell?_setCell_other W' p q _ e).trans hx⟩
 ·have hx:=h.any q v hq hv
  by_cases e : p = q
  ·subst e
   rw [hc] at hx
   exact absurd (Option.some.inj hx).symm (hv _ _)
  ·exact (World.cell?_setCell_other W' p q _ e).trans hx
 ·rw [World.frozen?_setCell]
  exact h.frz q hq
def IntAt (W : World) (g i : Nat) (κ : IntKind) : Prop:=(∃ a,W.cell? ⟨g,i,none⟩ = some (.int κ a)) ∧ W.frozen? ⟨g,i,none⟩ = false
theorem IntAt.shp {B : Nat} {W W' : World} {g i : Nat} {κ : IntKind} (h : IntAt W g i κ) (k : Shp B W W') : IntAt W' g i κ:=by
 obtain ⟨⟨a,h1⟩,h2⟩:=h
 exact ⟨k.int _ _ _ h1,(k.frz _ (World.block_lt_of_cell? W _ h1)).trans h2⟩
theorem row_cells {w : World} {base : Nat} {e : TypeId} {size : Nat} {v : Value} {n : Nat} {xs : List Value} (h : w.ownsRow base e size v n xs) (hn : 0 < n) : ∃ g cap,v = .slice (some ⟨g,0,none⟩) n cap ∧ base ≤ g ∧ n ≤ cap ∧ ∀ i u,xs[i]? = some u → w.cell? ⟨g,i,none⟩ = some u ∧ w.frozen? ⟨g,i,none⟩ = false:=by
 obtain ⟨hl,h⟩:=h
 rcases h with ⟨-,h2⟩|⟨g,cap,cur,rfl,hg,hh,hc1,hc2,hc3,ht⟩
 ·omega
 ·refine ⟨g,cap,rfl,hg,hc1,fun i u hi=>⟨?_,by simp [World.frozen?,hh]⟩⟩
  have hlt : i < xs.length:=(List.getElem?_eq_some_iff.1 hi).1
  have : cur[i]? = some u:=by
   rw [← ht,List.getElem?_take] at hi
   split at hi
   ·simpa using hi
   ·cases hi
  simp [World.cell?,hh,this]
def Col (W : World) (B : Nat) (v : Value) (n s j : Nat) (κ : IntKind) : Prop:=∀ k,k < n → ∃ g cap,v = .slice (some ⟨g,0,none⟩) n cap ∧ B ≤ g ∧ IntAt W g (k * s + j) κ
theorem Col.shp {B B' : Nat} {W W' : World} {v : Value} {n s j : Nat} {κ : IntKind} (h : Col W B v n s j κ) (k : Shp B' W W') : Col W' B v n s j κ:=fun i hi=>by
 obtain ⟨g,cap,h1,h2,h3⟩:=h i hi
 exact ⟨g,cap,h1,h2,h3.shp k⟩
theorem col_pool {W : World} {B : Nat} {v : Value} {l : List L3.Cp.C} (h : L3.OwnC W B v l) : Col W B v l.length 5 3 .i64:=fun k hk=>by
 obtain ⟨g,cap,h1,h2,-,h3⟩:=row_cells h (by omega)
 have hx : l[k]? = some l[k]:=List.getElem?_eq_getElem hk
 have h4:=Kit.flat_at L3.cL_len hx 3 (by omega)
 obtain ⟨h5,h6⟩:=h3 _ _ h4
 exact ⟨g,cap,h1,h2,⟨_,h5⟩,h6⟩
theorem col_bytes {W : World} {B : Nat} {v : Value} {l : List UInt8} (h : W.ownsRow B 5 1 v l.length (l.map L3.bv)) : Col W B v l.length 1 0 .u8:=fun k hk=>by
 obtain ⟨g,cap,h1,h2,-,h3⟩:=row_cells h (by omega)
 have hx : l[k]? = some l[k]:=List.getElem?_eq_getElem hk
 obtain ⟨h5,h6⟩:=h3 k (L3.bv l[k]) (by rw [List.getElem?_map,hx];rfl)
 rw [show k * 1 + 0 = k by omega]
 exact ⟨g,cap,h1,h2,⟨_,h5⟩,h6⟩
theorem col_hs {W : World} {B : Nat} {v : Value} {l : List Cf.Hn} (h : W.ownsRow B 58 4 v l.length (l.flatMap hL)) : Col W B v l.length 4 2 .i64:=fun k hk=>by
 obtain ⟨g,cap,h1,h2,-,h3⟩:=row_cells h (by omega)
 have hx : l[k]? = some l[k]:=List.getElem?_eq_getElem hk
 have h4:=Kit.flat_at (f:=hL) (s:=4) (fun _=>rfl) hx 2 (by omega)
 obtain ⟨h5,h6⟩:=h3 _ _ h4
 exact ⟨g,cap,h1,h2,⟨_,h5⟩,h6⟩
theorem all2_at {R : List Value → Cf.Mb → Prop} (hR : ∀ r m,R r m → r.length = 7) : ∀ {rs : List (List Value)} {ms : List Cf.Mb} {k : Nat} {m : Cf.Mb},All2 R rs ms → ms[k]? = some m → ∃ r,R r m ∧ ∀ j,j < 7 → rs.flatten[k * 7 + j]? = r[j]?
 | [],[],_,_,_,hk=>by simp at hk
 | r :: rs,m :: ms,0,x,h,hk=>by
  simp only [List.getElem?_cons_zero,Option.some.injEq] at hk
  subst hk
  refine ⟨r,h.1,fun j hj=>?_⟩
  rw [List.flatten_cons,List.getElem?_append_left (by have:=hR _ _ h.1;omega)]
  simp
 | r :: rs,m :: ms,k + 1,x,h,hk=>by
  obtain ⟨r',h1,h2⟩:=all2_at hR h.2 (by simpa using hk)
  refine ⟨r',h1,fun j hj=>?_⟩
  have h3:=hR _ _ h.1
  rw [List.flatten_cons,List.getElem?_append_right (by omega),h3,← h2 j hj]
  congr 1
  omega
 | [],_ :: _,_,_,h,_=>h.elim
 | _ :: _,[],_,_,h,_=>h.elim
theorem col_ms {W : World} {B : Nat} {v : Value} {ms : List Cf.Mb} (h : OMs W B v ms) : Col W B v ms.length 7 1 .i64:=fun k hk=>by
 obtain ⟨rs,h1,h2⟩:=h
 obtain ⟨g,cap,h3,h4,-,h5⟩:=row_cells h2 (by omega)
 obtain ⟨r,⟨cv,hv,rfl,-⟩,hr⟩:=all2_at (fun _ _ h=>OMb.len h) h1 (List.getElem?_eq_getElem hk)
 have h6:=hr 1 (by omega)
 obtain ⟨h7,h8⟩:=h5 _ _ h6
 exact ⟨g,cap,h3,h4,⟨_,h7⟩,h8⟩
def Inn (W : World) (B : Nat) (v : Value) (n : Nat) : Prop:=∀ k,k < n → ∃ g cap cv hv ca cn cc ha hn hc,v = .slice (some ⟨g,0,none⟩) n cap ∧ cv = .slice ca cn cc ∧ hv = .slice ha hn hc ∧ W.cell? ⟨g,k * 7 + 5,none⟩ = some cv ∧ W.cell? ⟨g,k * 7 + 6,none⟩ = some hv ∧ cn ≤ 140737488355328 ∧ hn ≤ 140737488355328 ∧ Col W B cv cn 1 0 .u8 ∧ Col W B hv hn 4 2 .i64
theorem Inn.shp {B B' : Nat} {W W' : World} {v : Value} {n : Nat} (h : Inn W B v n) (k : Shp B' W W') : Inn W' B v n:=fun i hi=>by
 obtain ⟨g,cap,cv,hv,ca,cn,cc,ha,hn,hc,h1,h2,h3,h4,h5,h6,h7,h8,h9⟩:=h i hi
 exact ⟨g,cap,cv,hv,ca,cn,cc,ha,hn,hc,h1,h2,h3,k.any _ _ h4 (by rw [h2];intro _ _ e;cases e),k.any _ _ h5 (by rw [h3];intro _ _ e;cases e),h6,h7,h8.shp k,h9.shp k⟩
theorem inn_ms {W : World} {B : Nat} {v : Value} {ms : List Cf.Mb} (h : OMs W B v ms) : Inn W B v ms.length:=fun k hk=>by
 obtain ⟨rs,h1,h2⟩:=h
 obtain ⟨g,cap,h3,h4,-,h5⟩:=row_cells h2 (by omega)
 obtain ⟨r,⟨cv,hv,rfl,hc,hh,hcl,hhl⟩,hr⟩:=all2_at (fun _ _ h=>OMb.len h) h1 (List.getElem?_eq_getElem hk)
 obtain ⟨ca,cc,rfl⟩:=L3.own_form hc
 obtain ⟨ha,hhc,rfl⟩:=L3.own_form hh
 exact ⟨g,cap,_,_,ca,_,cc,ha,_,hhc,h3,rfl,rfl,(h5 _ _ (hr 5 (by omega))).1,(h5 _ _ (hr 6 (by omega))).1,hcl,hhl,col_bytes hc,col_hs hh⟩
end Go.Proofs.YtnojgiflgmnjlaaGreatDoor
namespace Go.Proofs.YtnojgiflgmnjlaaGreatDoor
open Go Go.RowKit
theorem Shp.below {B : Nat} {W W' W'' : World} (h : Shp B W W') (hb : Below W'.heap.size W' W'') (hB : B ≤ W'.heap.size) : Shp B W W'':=by
 refine ⟨belows h.bel hb hB,fun p κ a hp=>?_,fun p v hp hv=>?_,fun p hp=>?_⟩
 ·obtain ⟨x,hx⟩:=h.int p κ a hp
  exact ⟨x,(World.cell?_of_block (hb.block _ (World.block_lt_of_cell? _ _ hx))).trans hx⟩
 ·have hx:=h.any p v hp hv
  exact (World.cell?_of_block (hb.block _ (World.block_lt_of_cell? _ _ hx))).trans hx
 ·exact (World.frozen?_of_block (hb.block _ (Nat.lt_of_lt_of_le hp h.bel.size))).trans (h.frz p hp)
def OwP (w : World) (e : Ending) (vs' : Array Value) (w' : World) : Prop:=∃ c',OCl w' w.heap.size vs' c' ∧ Below w.heap.size w w' ∧ c'.pool.length ≤ 140737488355328 ∧ c'.fs.length ≤ 140737488355328 ∧ c'.ms.length ≤ 140737488355328
set_option maxHeartbeats 4000000 in
theorem own_law (c : Cf.Cl) (vs : Array Value) (w : World) (h : ClR w vs c) (R : Int → List Int → Prop) (hdet : ∀ a l a' l',R a l → R a' l' → a = a' ∧ l = l')
  (hbe : ∀ W,Below w.heap.size w W → Calls Tryz.prog 13 #[] W fun e w'=>e = .returned (.bool true) ∧ Below W.heap.size W w')
  (hen : ∀ W,Below w.heap.size w W → Calls Tryz.prog 16 #[.agg vs] W fun e w'=>∃ er zs v,e = .returned (.tuple #[v,.int .i64 er]) ∧ R er zs ∧ L3.OwnI w' W.heap.size v zs ∧ zs.length ≤ 65536 ∧ Below W.heap.size W w')
  (hcn : ∀ W,Below w.heap.size w W → Calls Tryz.prog 33 #[.agg vs] W fun e w'=>∃ vs',e = .returned (.agg vs') ∧ OwP W e vs' w')
  (hwf : ∀ W,Below w.heap.size w W → Calls Tryz.prog 26 #[.agg vs,.int .i64 0,.string ⟨#[122,122]⟩,.string ⟨#[73]⟩] W fun e w'=>∃ vs' er,e = .returned (.tuple #[.agg vs',.int .i64 er]) ∧ OwP W e vs' w') :
  Calls Tryz.prog 10 #[.agg vs] w fun e w'=>e = .returned (.bool true) ∧ Below w.heap.size w w':=by
 have HBe:=hid hbe
 have HEn:=hid hen
 have HCn:=hid hcn
 have HWf:=hid hwf
 have HDt:=hid hdet
 obtain ⟨pv,fv,mv,rfl,hp,hf,hm⟩:=h
 obtain ⟨pa,pc,rfl⟩:=hp.len
 obtain ⟨fa,fc,rfl⟩:=hf.len
 obtain ⟨ma,mc,rfl⟩:=hm.len
 clear hbe hen hcn hwf hdet hp hf hm
 go_enter Tryz.func10,Tryz.ntmps10
 go_wp2_with ((go_at_call 13;refine (HBe.out _ BLw).mono ?_;rintro e w1 ⟨rfl,hb1⟩;obtain ⟨bC,hzC,B1⟩:=belows1 hb1;(obtain ⟨q0,q1,q2,q3,q4,q5,q6,q7⟩:=bC.cells8);have BC1:=hid bC;have HB1:=hid B1;clear hb1 bC B1))
 go_wp2_with fail
 refine (HEn.out _ HB1.out).mono ?_
 rintro e w2 ⟨er,zs,v,rfl,hR,hO,hln,hb2⟩
 obtain ⟨a1,c1,rfl⟩:=L3.own_form hO
 have bC:=BC1.out.below hb2 (by omega)
 clear q0 q1 q2 q3 q4 q5 q6 q7
 (obtain ⟨q0,q1,q2,q3,q4,q5,q6,q7⟩:=bC.cells8)
 have BC2:=hid bC
 have HB2:=hid (belows HB1.out hb2 HB1.out.size)
 have HR:=hid hR
 have HO:=hid hO
 have HLn:=hid hln
 have hz2 : w.heap.size < w2.heap.size:=Nat.lt_of_lt_of_le (by omega : w.heap.size < w1.heap.size) hb2.size
 clear hb2 bC hR hO hln
 go_wp2_with fail
 refine (HCn.out _ HB2.out).mono ?_
 rintro e w3 ⟨vs',rfl,d,⟨pv',fv',mv',rfl,hP,hF,hM⟩,hb3,hbd⟩
 obtain ⟨da,dc,rfl⟩:=L3.own_form hP
 obtain ⟨ga,gc,rfl⟩:=hF.len
 obtain ⟨na,nc,rfl⟩:=hM.len
 have HcP:=hid (col_pool hP)
 have HcM:=hid (col_ms hM)
 have HiM:=hid (inn_ms hM)
 have HcF:=hid (col_ms hF)
 have HB23:=hid hb3
 have HBd:=hid hbd
 clear hb3 hbd hP hF hM q0 q1 q2 q3 q4 q5 q6 q7
 go_wp2_with fail
 obtain ⟨W1,hW1⟩ : ∃ W1,W1 = w3.alloc (.cells #[.int .i64 d.mi,.int .i64 d.ma,.slice da d.pool.length dc,.int .i64 d.ac,.int .i64 d.th,.int .i64 d.su,.slice ga d.fs.length gc,.slice na d.ms.length nc] 26):=⟨_,rfl⟩
 rw [← hW1]
 have hb31 : Below w3.heap.size w3 W1:=by rw [hW1];exact (Below.refl _ _).alloc (Nat.le_refl _) _
 have bX : L3.BX W1 w3.heap.size #[.int .i64 d.mi,.int .i64 d.ma,.slice da d.pool.length dc,.int .i64 d.ac,.int .i64 d.th,.int .i64 d.su,.slice ga d.fs.length gc,.slice na d.ms.length nc] 26:=by rw [hW1];exact L3.BX.new _ _ _
 have D2:=hid (bX.cell 2)
 have D6:=hid (bX.cell 6)
 have D7:=hid (bX.cell 7)
 have hsh : Shp w2.heap.size w3 W1:=(Shp.refl _ _).below hb31 HB23.out.size
 have HcP1:=hid (HcP.out.shp hsh)
 have HcM1:=hid (HcM.out.shp hsh)
 have HiM1:=hid (HiM.out.shp hsh)
 have HcF1:=hid (HcF.out.shp hsh)
 have HB21:=hid (belows HB23.out hb31 HB23.out.size)
 have HS:=hid (Shp.refl w2.heap.size W1)
 clear hW1 hb31 bX hsh HcP HcM HiM HcF HB23
 go_loopw [29] (fun i wr=>∃ k : Nat,k ≤ d.pool.length ∧ i = .int .i64 k ∧ Hid (Shp w2.heap.size W1 wr)) (fun i _=>d.pool.length - (intOf i).toNat)
 case atStart=>exact ⟨0,by omega,rfl,HS⟩
 case round =>
  clear HS
  obtain ⟨k,hk,rfl,HS⟩:=hrel
  have e0 : wr.cell? ⟨w3.heap.size,2,none⟩ = some (.slice da d.pool.length dc):=HS.out.any _ _ D2.out (by intro _ _ e;cases e)
  by_cases hlt : k < d.pool.length
  ·obtain ⟨g,cap,e,hg,⟨a,c0⟩,f0⟩:=HcP1.out.shp HS.out k hlt
   obtain ⟨rfl,-,rfl⟩:=Value.slice.inj e
   have hki : (k : Int) < (d.pool.length : Int):=by omega
   have HS2:=hid (fun b=>HS.out.set (p:=⟨g,k * 5 + 3,none⟩) hg c0 b)
   have hbd:=HBd.out
   clear e
   go_wp2_with fail
   go_roundw
   case rel=>exact ⟨k + 1,by omega,by go_num,HS2.out _⟩
   case measure=>simp [intOf];omega
  ·obtain rfl : k = d.pool.length:=by omega
   clear hk hlt
   clear e0
   have e0 : wr.cell? ⟨w3.heap.size,7,none⟩ = some (.slice na d.ms.length nc):=HS.out.any _ _ D7.out (by intro _ _ e;cases e)
   go_wp2_with fail
   go_loopw [45] (fun i wr=>∃ k : Nat,k ≤ d.ms.length ∧ i = .int .i64 k ∧ Hid (Shp w2.heap.size W1 wr)) (fun i _=>d.ms.length - (intOf i).toNat)
   case atStart=>exact ⟨0,by omega,rfl,HS⟩
   case round =>
    clear HS e0
    obtain ⟨k,hk,rfl,HS⟩:=hrel
    have e0 : wr.cell? ⟨w3.heap.size,7,none⟩ = some (.slice na d.ms.length nc):=HS.out.any _ _ D7.out (by intro _ _ e;cases e)
    by_cases hlt : k < d.ms.length
    ·obtain ⟨g,cap,cv,hv,ca,cn,cc,ha,hn,hc,e,rfl,rfl,h5,h6,hcn,hhn,Cc,Ch⟩:=HiM1.out k hlt
     obtain ⟨rfl,-,rfl⟩:=Value.slice.inj e
     have hki : (k : Int) < (d.ms.length : Int):=by omega
     have hbd:=HBd.out
     have H5:=hid h5
     have H6:=hid h6
     have HCc:=hid Cc
     have HCh:=hid Ch
     have e5 : wr.cell? ⟨g,k * 7 + 5,none⟩ = some (.slice ca cn cc):=HS.out.any _ _ h5 (by intro _ _ e;cases e)
     clear e h5 h6 Cc Ch
     go_wp2_with fail
     go_loopw [55] (fun i wr=>∃ j : Nat,j ≤ cn ∧ i = .int .i64 j ∧ Hid (Shp w2.heap.size W1 wr)) (fun i _=>cn - (intOf i).toNat)
     case atStart=>exact ⟨0,by omega,rfl,HS⟩
     case round =>
      clear HS e0 e5
      obtain ⟨j,hj,rfl,HS⟩:=hrel
      have e0 : wr.cell? ⟨w3.heap.size,7,none⟩ = some (.slice (some ⟨g,0,none⟩) d.ms.length nc):=HS.out.any _ _ D7.out (by intro _ _ e;cases e)
      have e5 : wr.cell? ⟨g,k * 7 + 5,none⟩ = some (.slice ca cn cc):=HS.out.any _ _ H5.out (by intro _ _ e;cases e)
      by_cases hjt : j < cn
      ·obtain ⟨g2,cap2,e,hg2,⟨a,c0⟩,f0⟩:=HCc.out.shp HS.out j hjt
       obtain ⟨rfl,-,rfl⟩:=Value.slice.inj e
       rw [Nat.mul_one,Nat.add_zero] at c0 f0
       have hji : (j : Int) < (cn : Int):=by omega
       have HS2:=hid (fun b=>HS.out.set (p:=⟨g2,j,none⟩) hg2 c0 b)
       clear e
       go_wp2_with fail
       go_roundw
       case rel=>exact ⟨j + 1,by omega,by go_num,HS2.out _⟩
       case measure=>simp [intOf];omega
      ·obtain rfl : j = cn:=by omega
       clear hj hjt e5
       have e6 : wr.cell? ⟨g,k * 7 + 6,none⟩ = some (.slice ha hn hc):=HS.out.any _ _ H6.out (by intro _ _ e;cases e)
       go_wp2_with fail
       go_loopw [77] (fun i wr=>∃ j : Nat,j ≤ hn ∧ i = .int .i64 j ∧ Hid (Shp w2.heap.size W1 wr)) (fun i _=>hn - (intOf i).toNat)
       case atStart=>exact ⟨0,by omega,rfl,HS⟩
       case round =>
        clear HS e0 e6
        obtain ⟨j,hj,rfl,HS⟩:=hrel
        have e0 : wr.cell? ⟨w3.heap.size,7,none⟩ = some (.slice (some ⟨g,0,none⟩) d.ms.length nc):=HS.out.any _ _ D7.out (by intro _ _ e;cases e)
        have e6 : wr.cell? ⟨g,k * 7 + 6,none⟩ = some (.slice ha hn hc):=HS.out.any _ _ H6.out (by intro _ _ e;cases e)
        by_cases hjt : j < hn
        ·obtain ⟨g2,cap2,e,hg2,⟨a,c0⟩,f0⟩:=HCh.out.shp HS.out j hjt
         obtain ⟨rfl,-,rfl⟩:=Value.slice.inj e
         have hji : (j : Int) < (hn : Int):=by omega
         have HS2:=hid (fun b=>HS.out.set (p:=⟨g2,j * 4 + 2,none⟩) hg2 c0 b)
         clear e
         go_wp2_with fail
         go_roundw
         case rel=>exact ⟨j + 1,by omega,by go_num,HS2.out _⟩
         case measure=>simp [intOf];omega
        ·obtain rfl : j = hn:=by omega
         clear hj hjt e6
         obtain ⟨g3,cap3,e,hg3,⟨a,c0⟩,f0⟩:=HcM1.out.shp HS.out k hlt
         obtain ⟨e,-,-⟩:=Value.slice.inj e
         rw [Option.some.injEq,Addr.mk.injEq] at e
         obtain ⟨rfl,-,-⟩:=e
         have HS2:=hid (fun b=>HS.out.set (p:=⟨g,k * 7 + 1,none⟩) hg3 c0 b)
         go_wp2_with fail
         go_roundw
         case rel=>exact ⟨k + 1,by omega,by go_num,HS2.out _⟩
         case measure=>simp [intOf];omega
    ·obtain rfl : k = d.ms.length:=by omega
     clear hk hlt e0
     have e0 : wr.cell? ⟨w3.heap.size,6,none⟩ = some (.slice ga d.fs.length gc):=HS.out.any _ _ D6.out (by intro _ _ e;cases e)
     go_wp2_with fail
     go_loopw [107] (fun i wr=>∃ k : Nat,k ≤ d.fs.length ∧ i = .int .i64 k ∧ Hid (Shp w2.heap.size W1 wr)) (fun i _=>d.fs.length - (intOf i).toNat)
     case atStart=>exact ⟨0,by omega,rfl,HS⟩
     case round =>
      clear HS
      obtain ⟨k,hk,rfl,HS⟩:=hrel
      have e0 : wr.cell? ⟨w3.heap.size,6,none⟩ = some (.slice ga d.fs.length gc):=HS.out.any _ _ D6.out (by intro _ _ e;cases e)
      by_cases hlt : k < d.fs.length
      ·obtain ⟨g,cap,e,hg,⟨a,c0⟩,f0⟩:=HcF1.out.shp HS.out k hlt
       obtain ⟨rfl,-,rfl⟩:=Value.slice.inj e
       have hki : (k : Int) < (d.fs.length : Int):=by omega
       have HS2:=hid (fun b=>HS.out.set (p:=⟨g,k * 7 + 1,none⟩) hg c0 b)
       have hbd:=HBd.out
       clear e
       go_wp2_with fail
       go_roundw
       case rel=>exact ⟨k + 1,by omega,by go_num,HS2.out _⟩
       case measure=>simp [intOf];omega
      ·obtain rfl : k = d.fs.length:=by omega
       clear hk hlt
       obtain ⟨w5,rfl⟩ : ∃ w5,w5 = wr:=⟨_,rfl⟩
       have hb25:=HB21.out.trans HS.out.bel
       have HB25:=hid hb25
       have HB5:=hid (belows HB2.out hb25 HB2.out.size)
       have bC:=BC2.out.below hb25 hz2
       (obtain ⟨q0,q1,q2,q3,q4,q5,q6,q7⟩:=bC.cells8)
       clear bC hb25 e0 HS D2 D6 D7 HcP1 HcM1 HiM1 HcF1 HB21 HBd
       go_wp2_with fail
       refine (HWf.out _ HB5.out).mono ?_
       rintro e w6 ⟨vs',er2,rfl,x,⟨pv',fv',mv',rfl,hP,hF,hM⟩,hb6,hbd⟩
       obtain ⟨xa,xc,rfl⟩:=L3.own_form hP
       obtain ⟨ya,yc,rfl⟩:=hF.len
       obtain ⟨za,zc,rfl⟩:=hM.len
       have HcP:=hid (col_pool hP)
       have HcF:=hid (col_ms hF)
       have HB56:=hid hb6
       have HBd:=hid hbd
       clear hb6 hbd hP hF hM q0 q1 q2 q3 q4 q5 q6 q7
       go_wp2_with fail
       obtain ⟨W7,hW7⟩ : ∃ W7,W7 = w6.alloc (.cells #[.int .i64 x.mi,.int .i64 x.ma,.slice xa x.pool.length xc,.int .i64 x.ac,.int .i64 x.th,.int .i64 x.su,.slice ya x.fs.length yc,.slice za x.ms.length zc] 26):=⟨_,rfl⟩
       rw [← hW7]
       have hb67 : Below w6.heap.size w6 W7:=by rw [hW7];exact (Below.refl _ _).alloc (Nat.le_refl _) _
       have bX : L3.BX W7 w6.heap.size #[.int .i64 x.mi,.int .i64 x.ma,.slice xa x.pool.length xc,.int .i64 x.ac,.int .i64 x.th,.int .i64 x.su,.slice ya x.fs.length yc,.slice za x.ms.length zc] 26:=by rw [hW7];exact L3.BX.new _ _ _
       have D2:=hid (bX.cell 2)
       have D6:=hid (bX.cell 6)
       have hsh : Shp w5.heap.size w6 W7:=(Shp.refl _ _).below hb67 HB56.out.size
       have HcP1:=hid (HcP.out.shp hsh)
       have HcF1:=hid (HcF.out.shp hsh)
       have HB57:=hid (belows HB56.out hb67 HB56.out.size)
       have HS:=hid (Shp.refl w5.heap.size W7)
       clear hW7 hb67 bX hsh HcP HcF HB56
       go_loopw [128] (fun i wr=>∃ k : Nat,k ≤ x.pool.length ∧ i = .int .i64 k ∧ Hid (Shp w5.heap.size W7 wr)) (fun i _=>x.pool.length - (intOf i).toNat)
       case atStart=>exact ⟨0,by omega,rfl,HS⟩
       case round =>
        clear HS
        obtain ⟨k,hk,rfl,HS⟩:=hrel
        have e0 : wr.cell? ⟨w6.heap.size,2,none⟩ = some (.slice xa x.pool.length xc):=HS.out.any _ _ D2.out (by intro _ _ e;cases e)
        by_cases hlt : k < x.pool.length
        ·obtain ⟨g,cap,e,hg,⟨a,c0⟩,f0⟩:=HcP1.out.shp HS.out k hlt
         obtain ⟨rfl,-,rfl⟩:=Value.slice.inj e
         have hki : (k : Int) < (x.pool.length : Int):=by omega
         have HS2:=hid (fun b=>HS.out.set (p:=⟨g,k * 5 + 3,none⟩) hg c0 b)
         have hbd:=HBd.out
         clear e
         go_wp2_with fail
         go_roundw
         case rel=>exact ⟨k + 1,by omega,by go_num,HS2.out _⟩
         case measure=>simp [intOf];omega
        ·obtain rfl : k = x.pool.length:=by omega
         clear hk hlt
         clear e0
         have e0 : wr.cell? ⟨w6.heap.size,6,none⟩ = some (.slice ya x.fs.length yc):=HS.out.any _ _ D6.out (by intro _ _ e;cases e)
         go_wp2_with fail
         clear e0
         go_loopw [144] (fun i wr=>∃ k : Nat,k ≤ x.fs.length ∧ i = .int .i64 k ∧ Hid (Shp w5.heap.size W7 wr)) (fun i _=>x.fs.length - (intOf i).toNat)
         case atStart=>exact ⟨0,by omega,rfl,HS⟩
         case round =>
          clear HS
          obtain ⟨k,hk,rfl,HS⟩:=hrel
          have e0 : wr.cell? ⟨w6.heap.size,6,none⟩ = some (.slice ya x.fs.length yc):=HS.out.any _ _ D6.out (by intro _ _ e;cases e)
          by_cases hlt : k < x.fs.length
          ·obtain ⟨g,cap,e,hg,⟨a,c0⟩,f0⟩:=HcF1.out.shp HS.out k hlt
           obtain ⟨rfl,-,rfl⟩:=Value.slice.inj e
           have hki : (k : Int) < (x.fs.length : Int):=by omega
           have HS2:=hid (fun b=>HS.out.set (p:=⟨g,k * 7 + 1,none⟩) hg c0 b)
           have hbd:=HBd.out
           clear e
           go_wp2_with fail
           go_roundw
           case rel=>exact ⟨k + 1,by omega,by go_num,HS2.out _⟩
           case measure=>simp [intOf];omega
          ·obtain rfl : k = x.fs.length:=by omega
           clear hk hlt
           obtain ⟨w8,rfl⟩ : ∃ w8,w8 = wr:=⟨_,rfl⟩
           have hb28:=belows HB25.out (HB57.out.trans HS.out.bel) HB25.out.size
           have HB28:=hid hb28
           have HB8:=hid (belows HB2.out hb28 HB2.out.size)
           have bC:=BC2.out.below hb28 hz2
           (obtain ⟨q0,q1,q2,q3,q4,q5,q6,q7⟩:=bC.cells8)
           clear bC hb28 e0 HS D2 D6 HcP1 HcF1 HB57 HBd
           go_wp2_with fail
           refine (HEn.out _ HB8.out).mono ?_
           rintro e w9 ⟨er',zs',v',rfl,hR',hO',-,hb9⟩
           obtain ⟨rfl,rfl⟩:=HDt.out _ _ _ _ HR.out hR'
           obtain ⟨a2,c2,rfl⟩:=L3.own_form hO'
           have HI1:=hid (Kit.isS_of_owns (Kit.owns_below HO.out (belows HB28.out hb9 HB28.out.size) (Nat.le_refl _)) (by have:=HLn.out;omega))
           have HI2:=hid (Kit.isS_of_owns hO' (by have:=HLn.out;omega))
           have HB9:=hid (belows HB8.out hb9 HB8.out.size)
           clear hb9 hR' hO' q0 q1 q2 q3 q4 q5 q6 q7
           go_wp2_with (go_at_call 19;refine (L3.bequal_any zs _ _ _ HI1.out HI2.out).mono ?_;rintro e w' ⟨rfl,rfl⟩)
           go_ret
           exact ⟨rfl,HB9.out⟩
end Go.Proofs.YtnojgiflgmnjlaaGreatDoor
namespace Go.Proofs.YtnojgiflgmnjlaaGreatDoor
open Go.RowKit
theorem begB_take {l : List L1.Op1.Ins} {p : Int} {k : Nat} {x : L1.Op1.Ins} (h : Cf.begB (l.take k) p = false) (hx : l[k]? = some x) (hne : x.p ≠ p) : Cf.begB (l.take (k + 1)) p = false:=by
 rw [List.take_add_one,hx]
 unfold Cf.begB at h ⊢
 rw [List.any_append,h]
 simpa using hne
theorem begB_yes {l : List L1.Op1.Ins} {p : Int} {k : Nat} {x : L1.Op1.Ins} (hx : l[k]? = some x) (he : x.p = p) : Cf.begB l p = true:=by
 unfold Cf.begB
 rw [List.any_eq_true]
 exact ⟨x,List.mem_of_getElem? hx,by simpa using he⟩
set_option maxHeartbeats 1000000 in
theorem rbegins_any (l : List L1.Op1.Ins) (p : Int) (v : Value) (w : World) (hv : Kit.IsS 4 w v l.length (L1.insCells l)) :
  Calls Tryz.prog 160 #[v,.int .i64 p] w fun e w'=>e = .returned (.bool (Cf.begB l p)) ∧ w = w':=by
 have HV:=hid hv
 obtain ⟨a,cap,rfl⟩:=hv.len
 have hlen:=hv.2.1
 obtain ⟨r,hr⟩ : ∃ r,r = Cf.begB l p:=⟨_,rfl⟩
 rw [← hr]
 have HR:=hid hr
 clear hv hr
 go_enter Tryz.func160,Tryz.ntmps160
 go_wp2
 go_loopw [5] (fun i wr=>∃ k : Nat,k ≤ l.length ∧ i = .int .i64 k ∧ Hid (Cf.begB (l.take k) p = false) ∧ w = wr) (fun i _=>l.length - (intOf i).toNat)
 case atStart=>exact ⟨0,by omega,rfl,rfl,rfl⟩
 case round =>
  obtain ⟨k,hk,rfl,htk,rfl⟩:=hrel
  by_cases hlt : k < l.length
  ·obtain ⟨x,hx⟩ : ∃ x,l[k]? = some x:=⟨l[k],List.getElem?_eq_getElem hlt⟩
   obtain ⟨b,o,cap',hv,hb,c0,-,-,-⟩:=L1.ins_at HV.out hx
   obtain ⟨rfl,-,rfl⟩:=Value.slice.inj hv
   have i1 : (k : Int) < (l.length : Int):=by omega
   by_cases hxy : x.p = p
   ·have HF : Hid (r = true):=HR.out.trans (begB_yes hx hxy)
    clear hx hv
    have hd : (x.p == p) = true:=by simpa using hxy
    clear hxy
    go_wp2
    go_ret
    exact ⟨by rw [HF.out];rfl,rfl⟩
   ·have HF:=hid (begB_take htk.out hx hxy)
    have hd : (x.p == p) = false:=by simpa using hxy
    clear hx hv hxy
    go_wp2
    go_roundw
    case rel=>exact ⟨k + 1,by omega,by go_num,HF,by first|rfl|trivial⟩
    case measure=>simp [intOf];omega
  ·obtain rfl : k = l.length:=by omega
   have HF : Hid (r = false):=by
    show r = false
    have:=htk.out
    rw [List.take_length] at this
    rw [HR.out,this]
   go_wp2
   go_ret
   exact ⟨by rw [HF.out];rfl,rfl⟩
theorem inB_take {P : List L3.Cp.C} {ms : List Cf.Mb} {n : ByteArray × ByteArray} {k : Nat} {m : Cf.Mb} (h : Cf.inB n (Cf.ahead P ms k) = false) (hm : ms[k]? = some m) (hne : ¬ ((Cf.mbO P m).1.1 = n.1 ∧ (Cf.mbO P m).1.2 = n.2)) : Cf.inB n (Cf.ahead P ms (k + 1)) = false:=by
 unfold Cf.ahead at h ⊢
 rw [List.take_add_one,hm]
 unfold Cf.inB at h ⊢
 rw [List.map_append,List.any_append,h]
 simpa using hne
theorem inB_yes {P : List L3.Cp.C} {ms : List Cf.Mb} {n : ByteArray × ByteArray} {k : Nat} {m : Cf.Mb} (hm : ms[k]? = some m) (h : (Cf.mbO P m).1.1 = n.1 ∧ (Cf.mbO P m).1.2 = n.2) : Cf.inB n (Cf.ahead P ms ms.length) = true:=by
 unfold Cf.inB Cf.ahead
 rw [List.take_length,List.any_eq_true]
 exact ⟨_,List.mem_map_of_mem (List.mem_of_getElem? hm),by simpa using h⟩
theorem str_ne {a b : ByteArray} (h : ¬ a = b) : (a.toList == b.toList) = false:=by
 rw [beq_eq_false_iff_ne]
 intro e
 rw [ByteArray.toList_eq,ByteArray.toList_eq] at e
 exact h (ByteArray.ext (Array.toList_inj.1 e))
set_option maxHeartbeats 2000000 in
theorem rtwice_any (c : Cf.Cl) (vs : Array Value) (ms : List Cf.Mb) (v : Value) (n : ByteArray × ByteArray) (w : World) (hv : ClR w vs c) (hm : MsR w v ms) :
  Calls Tryz.prog 116 #[.agg vs,v,ndV n] w fun e w'=>e = .returned (.bool (Cf.inB n (Cf.ahead c.pool ms ms.length))) ∧ Below w.heap.size w w':=by
 have HC0:=hid hv
 have HV:=hid hm
 obtain ⟨pv,fv,mv,rfl,hp,hf,hms⟩:=hv
 obtain ⟨pa,pc,rfl⟩:=hp.len
 obtain ⟨fa,fc,rfl⟩:=hf.len
 obtain ⟨ma,mc,rfl⟩:=hms.len
 obtain ⟨a,cap,rfl⟩:=hm.len
 obtain ⟨r,hr⟩ : ∃ r,r = Cf.inB n (Cf.ahead c.pool ms ms.length):=⟨_,rfl⟩
 rw [← hr]
 have HR:=hid hr
 have HLn:=hid hm.size
 obtain ⟨n1,n2⟩:=n
 unfold ndV
 dsimp only at HR ⊢
 clear hp hf hms hm hr
 go_enter Tryz.func116,Tryz.ntmps116
 go_wp2_with fail
 obtain ⟨W1,hW1⟩ : ∃ W1,W1 = ((w.alloc (.cells #[.int .i64 c.mi,.int .i64 c.ma,.slice pa c.pool.length pc,.int .i64 c.ac,.int .i64 c.th,.int .i64 c.su,.slice fa c.fs.length fc,.slice ma c.ms.length mc] 26)).alloc (.cells #[.string ⟨#[]⟩,.string n1,.string n2] 44)):=⟨_,rfl⟩
 obtain ⟨bC,bN,hzW,B1⟩:=boxes2 (w:=w) (w1:=W1) (by rw [hW1];exact Below.refl _ _)
 rw [← hW1]
 have HB1:=hid B1
 have BC1:=hid bC
 have BN1:=hid bN
 clear hW1 bC bN B1
 go_loopw [7] (fun i wr=>∃ k : Nat,k ≤ ms.length ∧ i = .int .i64 k ∧ Hid (Cf.inB (n1,n2) (Cf.ahead c.pool ms k) = false) ∧ Below W1.heap.size W1 wr) (fun i _=>ms.length - (intOf i).toNat)
 case atStart=>exact ⟨0,by omega,rfl,rfl,Below.refl _ _⟩
 case round =>
  obtain ⟨k,hk,rfl,htk,hbl⟩:=hrel
  have HJ:=hid hbl
  have hln:=HLn.out
  have hBr : Below w.heap.size w wr:=belows HB1.out hbl HB1.out.size
  by_cases hlt : k < ms.length
  ·obtain ⟨x,hx⟩ : ∃ x,ms[k]? = some x:=⟨ms[k],List.getElem?_eq_getElem hlt⟩
   obtain ⟨b,o,cap',cv,hw,hv2,hbb,hB,hH,hl,c0,c1,c2,c3,c4,c5,c6⟩:=(HV.out.below hBr (Nat.le_refl _)).at hx
   obtain ⟨rfl,-,rfl⟩:=Value.slice.inj hv2
   have i1 : (k : Int) < (ms.length : Int):=by omega
   have hx1:=HC0.out
   have HA1:=fun W (q : Below w.heap.size w W)=>rmember_any c _ x cv hw W (HC0.out.below q (Nat.le_refl _))
   obtain ⟨xa,xc,rfl⟩:=hB.len
   obtain ⟨ya,yc,rfl⟩:=hH.len
   have hstep:=fun (hne : ¬ ((Cf.mbO c.pool x).1.1 = n1 ∧ (Cf.mbO c.pool x).1.2 = n2))=>inB_take (n:=(n1,n2)) htk.out hx hne
   have hyes:=fun (he : (Cf.mbO c.pool x).1.1 = n1 ∧ (Cf.mbO c.pool x).1.2 = n2)=>inB_yes (n:=(n1,n2)) hx he
   obtain ⟨⟨⟨x1,x2⟩,xe⟩,hxe⟩ : ∃ y,y = Cf.mbO c.pool x:=⟨_,rfl⟩
   rw [← hxe] at HA1 hstep hyes
   unfold ndV mbV at HA1
   dsimp only at HA1 hstep hyes
   have HA:=hid HA1
   have HS:=hid hstep
   have HY:=hid hyes
   have bC:=BC1.out.below hbl BC1.out.sz
   have bN:=BN1.out.below hbl BN1.out.sz
   have hzr:=hbl.size
   (have q0:=bC.cell 0;have fq0:=bC.frozen 0;have q1:=bC.cell 1;have fq1:=bC.frozen 1;have q2:=bC.cell 2;have fq2:=bC.frozen 2;have q3:=bC.cell 3;have fq3:=bC.frozen 3;have q4:=bC.cell 4;have fq4:=bC.frozen 4;have q5:=bC.cell 5;have fq5:=bC.frozen 5;have q6:=bC.cell 6;have fq6:=bC.frozen 6;have q7:=bC.cell 7;have fq7:=bC.frozen 7;simp at q0 q1 q2 q3 q4 q5 q6 q7)
   have p0:=bN.cell 0
   have p1:=bN.cell 1
   have p2:=bN.cell 2
   simp at p0 p1 p2
   clear hx hv2 hB hH hl hx1 HA1 hstep hyes hxe bC bN
   have hn1 : ¬ wr.heap.size = w.heap.size:=by omega
   have hn2 : ¬ wr.heap.size = b:=by omega
   have hn3 : ¬ wr.heap.size = w.heap.size + 1:=by omega
   go_wp2_with fail
   go_region_held3 (fun w'=>w'.cell? ⟨w.heap.size,0,none⟩ = some (.int .i64 c.mi) ∧ w'.cell? ⟨w.heap.size,1,none⟩ = some (.int .i64 c.ma) ∧ w'.cell? ⟨w.heap.size,2,none⟩ = some (.slice pa c.pool.length pc) ∧ w'.cell? ⟨w.heap.size,3,none⟩ = some (.int .i64 c.ac) ∧ w'.cell? ⟨w.heap.size,4,none⟩ = some (.int .i64 c.th) ∧ w'.cell? ⟨w.heap.size,5,none⟩ = some (.int .i64 c.su) ∧ w'.cell? ⟨w.heap.size,6,none⟩ = some (.slice fa c.fs.length fc) ∧ w'.cell? ⟨w.heap.size,7,none⟩ = some (.slice ma c.ms.length mc) ∧
     w'.cell? ⟨b,o + k * 7,none⟩ = some (.int .i64 x.ac) ∧ w'.cell? ⟨b,o + k * 7 + 1,none⟩ = some (.int .i64 x.nm) ∧ w'.cell? ⟨b,o + k * 7 + 2,none⟩ = some (.int .i64 x.ds) ∧ w'.cell? ⟨b,o + k * 7 + 3,none⟩ = some (.int .i64 x.st) ∧ w'.cell? ⟨b,o + k * 7 + 4,none⟩ = some (.int .i64 x.lc) ∧ w'.cell? ⟨b,o + k * 7 + 5,none⟩ = some (.slice xa x.code.length xc) ∧ w'.cell? ⟨b,o + k * 7 + 6,none⟩ = some (.slice ya x.hs.length yc))
    (first|exact ⟨q0,q1,q2,q3,q4,q5,q6,q7,c0,c1,c2,c3,c4,c5,c6⟩|go_keep)
    (first|(go_at_call 25;refine (HA.out _ BLw).mono ?_;rintro e w2 ⟨rfl,hb2⟩;have hB2 : Below wr.heap.size wr w2:=(by first|exact below_undrew hb2|exact belows (((Below.refl wr.heap.size wr).drew).alloc (by simp) _) hb2 (by simp));(try (have bX:=(L3.BX.new wr.drew #[.string ⟨#[]⟩,.string ⟨#[]⟩,.string ⟨#[]⟩] 44).below hb2 (by simp);have xq0:=bX.cell 0;have xq1:=bX.cell 1;have xq2:=bX.cell 2;have fx0:=bX.frozen 0;have fx1:=bX.frozen 1;have fx2:=bX.frozen 2;have hzx:=bX.sz;simp at xq0 xq1 xq2 fx0 fx1 fx2 hzx));have bN:=(BN1.out.below HJ.out BN1.out.sz).below hB2 (BN1.out.below HJ.out BN1.out.sz).sz;clear p0 p1 p2;have p0:=bN.cell 0;have p1:=bN.cell 1;have p2:=bN.cell 2;have hzq:=bN.sz;simp at p0 p1 p2;have HJ2:=hid (belows HJ.out hB2 HJ.out.size);have bC:=(BC1.out.below HJ.out BC1.out.sz).below hB2 (BC1.out.below HJ.out BC1.out.sz).sz;clear q0 q1 q2 q3 q4 q5 q6 q7 fq0 fq1 fq2 fq3 fq4 fq5 fq6 fq7;(obtain ⟨q0,q1,q2,q3,q4,q5,q6,q7⟩:=bC.cells8);have c0:=(hB2.cell (p:=⟨b,o + k * 7,none⟩) (by simpa using hbb)).trans c0;have c1:=(hB2.cell (p:=⟨b,o + k * 7 + 1,none⟩) (by simpa using hbb)).trans c1;have c2:=(hB2.cell (p:=⟨b,o + k * 7 + 2,none⟩) (by simpa using hbb)).trans c2;have c3:=(hB2.cell (p:=⟨b,o + k * 7 + 3,none⟩) (by simpa using hbb)).trans c3;have c4:=(hB2.cell (p:=⟨b,o + k * 7 + 4,none⟩) (by simpa using hbb)).trans c4;have c5:=(hB2.cell (p:=⟨b,o + k * 7 + 5,none⟩) (by simpa using hbb)).trans c5;have c6:=(hB2.cell (p:=⟨b,o + k * 7 + 6,none⟩) (by simpa using hbb)).trans c6))
   all_goals
    have B12:=HJ2.out
    have hz12:=B12.size
    by_cases hxy : x1 = n1 ∧ x2 = n2
    ·obtain ⟨rfl,rfl⟩:=hxy
     have HF:=hid (HR.out.trans (HY.out ⟨rfl,rfl⟩))
     clear HY HS
     go_wp2
     go_ret
     exact ⟨by rw [HF.out];rfl,(belows HB1.out (show Below W1.heap.size W1 _ from BLw) HB1.out.size)⟩
    ·have HF:=hid (HS.out hxy)
     have hd : x1 ≠ n1 ∨ (x1 = n1 ∧ x2 ≠ n2):=by
      by_cases e1 : x1 = n1
      ·exact .inr ⟨e1,fun e2=>hxy ⟨e1,e2⟩⟩
      ·exact .inl e1
     clear HY HS hxy
     rcases hd with hd|⟨rfl,hd⟩
     all_goals
      have hd1:=str_ne hd
      clear hd
      go_wp2
      go_roundw
      case rel=>exact ⟨k + 1,by omega,by go_num,HF,BLw⟩
      case measure=>simp [intOf];omega
  ·obtain rfl : k = ms.length:=by omega
   have HF : Hid (r = false):=HR.out.trans htk.out
   go_wp2
   go_ret
   exact ⟨by rw [HF.out];rfl,hBr⟩
end Go.Proofs.YtnojgiflgmnjlaaGreatDoor
