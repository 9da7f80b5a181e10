/- Own texts for the claim, part 13. -/
import Derived.Test.YtnojgiflgmnjlaaGreatDoorZD12
set_option maxRecDepth 100000
namespace Go.Proofs.YtnojgiflgmnjlaaGreatDoor
open Go.RowKit
def Rdr (w : World) (pb : Nat) (code : Int) (bs : List UInt8) : Prop:=∃ v,w.heap[pb]? = some (.cells #[v,.int .i64 code] 60 (0,0)) ∧ L3.Bs pb w v bs
theorem Rdr.sz {w : World} {pb : Nat} {code : Int} {bs : List UInt8} (h : Rdr w pb code bs) : pb < w.heap.size:=by obtain ⟨v,h,-⟩:=h;exact (Array.getElem?_eq_some_iff.1 h).1
theorem Rdr.below {w w' : World} {pb n : Nat} {code : Int} {bs : List UInt8} (h : Rdr w pb code bs) (hb : Below n w w') (hp : pb < n) : Rdr w' pb code bs:=by
 obtain ⟨v,h,k⟩:=h
 exact ⟨v,(hb.block pb hp).trans h,k.below hb (by omega)⟩
theorem Rdr.grown {w w' : World} {pb : Nat} {code : Int} {bs : List UInt8} {row : Option Nat} (h : Rdr w pb code bs) (hg : w.grownBy w' row) (hne : ∀ k,row = some k → pb < k) : Rdr w' pb code bs:=by
 have hs:=h.sz
 obtain ⟨v,h,k⟩:=h
 have hb:=fun b (hb : b ≤ pb)=>hg.block b (by omega) (fun e=>by have:=hne b e.symm;omega)
 exact ⟨v,(hb pb (Nat.le_refl _)).trans h,k.same fun b o hl=>World.cell?_of_block (hb b (by omega))⟩
def Stp (pb : Nat) (code : Int) (bs : List UInt8) (w w' : World) : Prop:=w.grownBy w' (some pb) ∧ Rdr w' pb code bs
def RP {α : Type} (pb : Nat) (code : Int) (x : Except Int (α × List UInt8)) (V : World → Nat → Value → α → Prop) (w : World) (e : Ending) (w' : World) : Prop :=
 (∃ er,x = .error er ∧ e = L3.pan er ∧ w.grownBy w' (some pb)) ∨ (∃ a r v,x = .ok (a,r) ∧ e = .returned v ∧ V w' w.heap.size v a ∧ Stp pb code r w w')
def VI (_ : World) (_ : Nat) (v : Value) (n : Int) : Prop:=v = .int .i64 n
def VU (_ : World) (_ : Nat) (v : Value) (_ : Unit) : Prop:=v = .tuple #[]
def VB (pb : Nat) (w : World) (_ : Nat) (v : Value) (l : List UInt8) : Prop:=L3.Bs pb w v l
theorem want_yes (pb : Nat) (er : Int) (w : World) : Calls Tryz.prog 131 #[.pointer (some ⟨pb,0,none⟩),.bool true,.int .i64 er] w fun e w'=>e = .returned (.tuple #[]) ∧ w = w':=by
 go_enter Tryz.func131,Tryz.ntmps131
 go_wp2
 exact bodyPost_end (results_none rfl _ _ _) rfl ⟨rfl,rfl⟩
theorem want_no (pb : Nat) (er : Int) (w : World) : Calls Tryz.prog 131 #[.pointer (some ⟨pb,0,none⟩),.bool false,.int .i64 er] w fun e w'=>e = L3.pan er ∧ w = w':=by
 unfold L3.pan
 go_enter Tryz.func131,Tryz.ntmps131
 go_wp2
 exact ⟨rfl,rfl,rfl⟩
theorem bx_set {w : World} {pb : Nat} {v x : Value} (h : w.heap[pb]? = some (.cells #[v,x] 60 (0,0))) (u : Value) : (w.setCell ⟨pb,0,none⟩ u).heap[pb]? = some (.cells #[u,x] 60 (0,0)):=by
 obtain ⟨hlt,hk⟩:=Array.getElem?_eq_some_iff.1 h
 show (w.heap.modify pb _)[pb]? = _
 rw [Array.getElem?_eq_getElem (by rw [Array.size_modify];exact hlt),Array.getElem_modify_self,hk]
 rfl
theorem take_bad (pb k : Nat) (code : Int) (bs : List UInt8) (w : World) (hr : Rdr w pb code bs) (h : bs.length < k) :
  Calls Tryz.prog 165 #[.pointer (some ⟨pb,0,none⟩),.int .i64 k] w fun e w'=>e = L3.pan 30 ∧ w = w':=by
 obtain ⟨v,hb,hv⟩:=hr
 obtain ⟨a,cap,rfl⟩:=hv.len
 have cl : w.cell? ⟨pb,0,none⟩ = some (.slice a bs.length cap):=by simp [World.cell?,hb]
 have hd : decide ((k : Int) ≤ (bs.length : Int)) = false:=by simp;omega
 have hd2 : decide (k ≤ bs.length) = false:=by simp;omega
 have hl:=hv.1
 have HN:=hid (want_no pb 30)
 unfold L3.pan at HN ⊢
 clear hb hv h
 go_enter Tryz.func165,Tryz.ntmps165
 go_wp2_with (go_at_call 131;(with_reducible refine (HN.out _).mono ?_);rintro e w1 ⟨rfl,rfl⟩)
 exact ⟨rfl,rfl,rfl⟩
set_option maxHeartbeats 400000 in
theorem take_ok (pb k : Nat) (code : Int) (bs : List UInt8) (w : World) (hr : Rdr w pb code bs) (h : k ≤ bs.length) :
  Calls Tryz.prog 165 #[.pointer (some ⟨pb,0,none⟩),.int .i64 k] w fun e w'=>∃ v,e = .returned v ∧ L3.Bs pb w' v (bs.take k) ∧ Stp pb code (bs.drop k) w w':=by
 obtain ⟨v,hb,hv⟩:=hr
 have hl:=hv.1
 have HN:=hid (want_yes pb 30)
 rcases hv.2 with ⟨rfl,a,cap,rfl⟩|⟨b,o,cap,rfl,hcap,hlim,hc⟩
 ·obtain rfl : k = 0:=by simpa using h
  have cl : w.cell? ⟨pb,0,none⟩ = some (.slice a 0 cap):=by simp [World.cell?,hb]
  have fz : w.frozen? ⟨pb,0,none⟩ = false:=by simp [World.frozen?,hb]
  clear hv h hl
  have Hb:=hid hb
  clear hb
  cases a with
  | none =>
   go_enter Tryz.func165,Tryz.ntmps165
   go_wp2_with (go_at_call 131;refine (HN.out _).mono ?_;rintro e w1 ⟨rfl,rfl⟩)
   all_goals
    go_ret
    refine ⟨_,rfl,⟨by simp,.inl ⟨rfl,_,_,rfl⟩⟩,L3.grownBy_setCell' _ _ _,_,bx_set Hb.out _,by simp,.inl ⟨rfl,_,_,rfl⟩⟩
  | some ad =>
   go_enter Tryz.func165,Tryz.ntmps165
   go_wp2_with (go_at_call 131;refine (HN.out _).mono ?_;rintro e w1 ⟨rfl,rfl⟩)
   all_goals
    go_ret
    refine ⟨_,rfl,⟨by simp,.inl ⟨rfl,_,_,rfl⟩⟩,L3.grownBy_setCell' _ _ _,_,bx_set Hb.out _,by simp,.inl ⟨rfl,_,_,rfl⟩⟩
 ·have cl : w.cell? ⟨pb,0,none⟩ = some (.slice (some ⟨b,o,none⟩) bs.length cap):=by simp [World.cell?,hb]
  have fz : w.frozen? ⟨pb,0,none⟩ = false:=by simp [World.frozen?,hb]
  have hd : decide ((k : Int) ≤ (bs.length : Int)) = true:=by simp;omega
  have Hb:=hid hb
  have HC:=hid hc
  have HK:=hid h
  clear hv hb hc
  go_enter Tryz.func165,Tryz.ntmps165
  go_wp2_with (go_at_call 131;refine (HN.out _).mono ?_;rintro e w1 ⟨rfl,rfl⟩)
  all_goals
   go_ret
   refine ⟨_,rfl,?_,L3.grownBy_setCell' _ _ _,_,bx_set Hb.out _,?_⟩
  ·refine ⟨by rw [List.length_take];omega,.inr ⟨b,o,_,by rw [List.length_take,Nat.min_eq_left HK.out];rfl,by rw [List.length_take];omega,hlim,fun i c hi=>?_⟩⟩
   rw [L3.set_cell_other _ _ _ _ _ hlim]
   exact HC.out i c (L3.take_at hi)
  ·have hk : bs.length = k:=by have:=HK.out;omega
   exact ⟨by rw [List.length_drop];omega,.inl ⟨List.drop_eq_nil_of_le (by omega),_,_,by rw [hk,Nat.sub_self]⟩⟩
  ·refine ⟨by rw [List.length_take];omega,.inr ⟨b,o,_,by rw [List.length_take,Nat.min_eq_left HK.out];rfl,by rw [List.length_take];have:=HK.out;omega,hlim,fun i c hi=>?_⟩⟩
   rw [L3.set_cell_other _ _ _ _ _ hlim]
   exact HC.out i c (L3.take_at hi)
  ·refine ⟨by rw [List.length_drop];omega,.inr ⟨b,o + k,_,by rw [List.length_drop],by rw [List.length_drop];omega,hlim,fun i c hi=>?_⟩⟩
   rw [L3.set_cell_other _ _ _ _ _ hlim,Nat.add_assoc]
   exact HC.out (k + i) c (L3.drop_at hi)
theorem grown_refl' (w : World) (row : Option Nat) : w.grownBy w row:=⟨rfl,rfl,rfl,Nat.le_refl _,fun _ _ _=>rfl⟩
theorem take_any (pb k : Nat) (code : Int) (bs : List UInt8) (w : World) (hr : Rdr w pb code bs) :
  Calls Tryz.prog 165 #[.pointer (some ⟨pb,0,none⟩),.int .i64 k] w (RP pb code (Cf.takeP k bs) (VB pb) w):=by
 unfold Cf.takeP
 by_cases h : k ≤ bs.length
 ·rw [if_pos h]
  refine (take_ok pb k code bs w hr h).mono ?_
  rintro e w' ⟨v,rfl,h1,h2⟩
  exact .inr ⟨_,_,v,rfl,rfl,h1,h2⟩
 ·rw [if_neg h]
  refine (take_bad pb k code bs w hr (by omega)).mono ?_
  rintro e w' ⟨rfl,rfl⟩
  exact .inl ⟨_,rfl,rfl,grown_refl' _ _⟩
theorem shl8 (a b : Nat) (ha : a < 256) (hb : b < 256) : bits .or .i64 ((a : Int) * 256) (b : Int) = (a : Int) * 256 + (b : Int):=by
 have h:=L3.Cp.or_step (a : Int) b hb
 rw [L3.Cp.w64,L3.Cp.w64] at h
 rw [show ((a : Int) * 256 + 9223372036854775808) % 18446744073709551616 - 9223372036854775808 = (a : Int) * 256 by omega] at h
 rw [h]
 omega
set_option maxHeartbeats 400000 in
theorem u2_any (pb : Nat) (code : Int) (bs : List UInt8) (w : World) (hr : Rdr w pb code bs) :
  Calls Tryz.prog 133 #[.pointer (some ⟨pb,0,none⟩)] w (RP pb code (Cf.u2 bs) VI w):=by
 by_cases h : 2 ≤ bs.length
 ·match bs,h with
  | a :: b :: r,h =>
  have HT0:=take_ok pb 2 code (a :: b :: r) w hr h
  have HT:=hid HT0
  have hab:=shl8 a.toNat b.toNat (L3.Cp.u8_lt a) (L3.Cp.u8_lt b)
  have ha:=L3.Cp.u8_lt a
  have hb:=L3.Cp.u8_lt b
  clear HT0 hr
  unfold RP
  go_enter Tryz.func133,Tryz.ntmps133
  go_wp2_with (go_at_call 165;refine HT.out.mono ?_;rintro e w1 ⟨v,rfl,hv,hs⟩;obtain ⟨bb,o,cap,rfl,hbb,c0⟩:=(show ∃ bb o cap,v = .slice (some ⟨bb,o,none⟩) 2 cap ∧ bb < pb ∧ (w1.cell? ⟨bb,o,none⟩ = some (.int .u8 (a.toNat : Int)) ∧ w1.cell? ⟨bb,o + 1,none⟩ = some (.int .u8 (b.toNat : Int))) from (by (rcases hv.2 with ⟨h9,-⟩|⟨bb,o,cap,hv1,-,hlim,hc⟩);(·simp at h9);(·exact ⟨bb,o,cap,hv1,hlim,hc 0 a rfl,hc 1 b rfl⟩)));obtain ⟨c0,c1⟩:=c0;have HS:=hid hs;clear hv hs)
  go_quiet (fail)
  go_wp2
  go_ret
  refine .inr ⟨_,_,_,rfl,rfl,?_,?_⟩
  ·unfold VI;simp
  ·have h1:=HS.out
   exact ⟨⟨h1.1.os,h1.1.tape,h1.1.output,h1.1.size,h1.1.block⟩,h1.2.below (n:=w1.heap.size) BLw (by have:=h1.2.sz;omega)⟩
 ·have hx : Cf.u2 bs = .error 30:=by
   match bs,h with
   | [],_=>rfl
   | [_],_=>rfl
   | _ :: _ :: _,h=>simp at h
  have HT:=hid (take_bad pb 2 code bs w hr (by omega))
  unfold L3.pan at HT
  clear hr h
  unfold RP L3.pan
  go_enter Tryz.func133,Tryz.ntmps133
  go_wp2_with (go_at_call 165;refine HT.out.mono ?_;rintro e w1 ⟨rfl,rfl⟩)
  exact ⟨rfl,.inl ⟨_,hx,rfl,grown_refl' _ _⟩⟩
end Go.Proofs.YtnojgiflgmnjlaaGreatDoor
namespace Go.Proofs.YtnojgiflgmnjlaaGreatDoor
open Go.RowKit
theorem grown_al {w W : World} {r : Option Nat} (h : w.grownBy W r) (o : Obj) : w.grownBy (W.alloc o) r :=
 ⟨h.os,h.tape,h.output,by rw [World.size_alloc];have:=h.size;omega,fun i hi hne=>((((Below.refl W.heap.size W).alloc (Nat.le_refl _) o).block i (Nat.lt_of_lt_of_le hi h.size))).trans (h.block i hi hne)⟩
theorem grown_dr {w W : World} {r : Option Nat} (h : w.grownBy W r) : w.grownBy W.drew r:=⟨h.os,h.tape,h.output,h.size,h.block⟩
theorem Cf.u2_range {bs r : List UInt8} {n : Int} (h : Cf.u2 bs = .ok (n,r)) : 0 ≤ n ∧ n < 65536:=by
 match bs,h with
 | a :: b :: _,h =>
  obtain ⟨rfl,-⟩:=Prod.mk.inj (Except.ok.inj h)
  have:=L3.Cp.u8_lt a
  have:=L3.Cp.u8_lt b
  omega
 | [],h=>cases h
 | [_],h=>cases h
theorem or16 (a b : Int) (ha : 0 ≤ a ∧ a < 65536) (hb : 0 ≤ b ∧ b < 65536) : bits .or .i64 (a * 65536) b = a * 65536 + b:=by
 obtain ⟨m,rfl⟩:=Int.eq_ofNat_of_zero_le ha.1
 obtain ⟨x,rfl⟩:=Int.eq_ofNat_of_zero_le hb.1
 have e1 : (BitVec.ofInt 64 ((m : Int) * 65536)).toNat = m * 65536:=by
  rw [BitVec.toNat_ofInt]
  have : ((m : Int) * 65536) % ((2 ^ 64 : Nat) : Int) = ((m * 65536 : Nat) : Int):=by omega
  rw [this];omega
 have e2 : (BitVec.ofInt 64 (x : Int)).toNat = x:=by
  rw [BitVec.toNat_ofInt]
  have : (x : Int) % ((2 ^ 64 : Nat) : Int) = (x : Int):=by omega
  rw [this];omega
 have e3 : m * 65536 ||| x = m * 65536 + x:=by
  have:=Nat.shiftLeft_add_eq_or_of_lt (i:=16) (b:=x) (by omega) m
  rw [Nat.shiftLeft_eq] at this
  simp only [Nat.reducePow] at this
  exact this.symm
 show IntKind.i64.wrap ((BitVec.ofInt 64 ((m : Int) * 65536) ||| BitVec.ofInt 64 (x : Int)).toNat : Int) = _
 rw [BitVec.toNat_or,e1,e2,e3]
 exact IntWalk.i64_in _ (by omega)
set_option maxHeartbeats 400000 in
theorem u4_any (pb : Nat) (code : Int) (bs : List UInt8) (w : World) (hr : Rdr w pb code bs) :
  Calls Tryz.prog 132 #[.pointer (some ⟨pb,0,none⟩)] w (RP pb code (Cf.u4 bs) VI w):=by
 have HU:=hid (fun bs W (h : Rdr W pb code bs)=>u2_any pb code bs W h)
 have HR:=hr
 have HG:=grown_refl' w (some pb)
 obtain ⟨X,HE⟩ : ∃ X,Cf.u4 bs = X:=⟨_,rfl⟩
 rw [HE]
 unfold Cf.u4 at HE
 unfold RP L3.pan VI at HU ⊢
 clear hr
 go_enter Tryz.func132,Tryz.ntmps132
 go_wp2_with (go_at_call 133;refine (HU.out _ _ (by first|exact HR|exact HR.below (n:=pb + 1) BLw (Nat.lt_succ_self pb))).mono ?_;rintro e W h;rcases h with ⟨er,hx,rfl,hg⟩|⟨n,r,v,hx,rfl,rfl,hs⟩;all_goals (first|(rw [Cf.bnd_err hx] at HE;have HG : w.grownBy W (some pb):=L3.grown_trans GRw hg)|(have hn:=Cf.u2_range hx;rw [Cf.bnd_ok hx] at HE;have HG : w.grownBy W (some pb):=L3.grown_trans GRw hs.1;have HR:=hs.2;have hz:=HG.size;have hp:=HR.sz));clear hx)
 ·(exact ⟨rfl,.inl ⟨_,HE.symm,rfl,HG⟩⟩)
 ·(exact ⟨rfl,.inl ⟨_,HE.symm,rfl,HG⟩⟩)
 ·go_ret
  exact .inr ⟨_,_,_,HE.symm,rfl,by simp;exact or16 _ _ (by assumption) (by assumption),HG,HR⟩
set_option maxHeartbeats 400000 in
theorem none_any (pb : Nat) (code : Int) (bs : List UInt8) (w : World) (hr : Rdr w pb code bs) :
  Calls Tryz.prog 135 #[.pointer (some ⟨pb,0,none⟩)] w (RP pb code (Cf.noneP bs) VU w):=by
 have HU:=hid (fun bs W (h : Rdr W pb code bs)=>u2_any pb code bs W h)
 have HR:=hr
 have HG:=grown_refl' w (some pb)
 obtain ⟨X,HE⟩ : ∃ X,Cf.noneP bs = X:=⟨_,rfl⟩
 rw [HE]
 have HY:=hid (want_yes pb 43)
 have HN:=hid (want_no pb 43)
 unfold Cf.noneP at HE
 unfold RP L3.pan VI VU at *
 clear hr
 go_enter Tryz.func135,Tryz.ntmps135
 go_wp2_with (first|(go_at_call 133;refine (HU.out _ _ (by first|exact HR|exact HR.below (n:=pb + 1) BLw (Nat.lt_succ_self pb))).mono ?_;rintro e W h;rcases h with ⟨er,hx,rfl,hg⟩|⟨n,r,v,hx,rfl,rfl,hs⟩;all_goals (first|(rw [Cf.bnd_err hx] at HE;have HG : w.grownBy W (some pb):=L3.grown_trans GRw hg)|(have hn:=Cf.u2_range hx;rw [Cf.bnd_ok hx] at HE;have HG : w.grownBy W (some pb):=L3.grown_trans GRw hs.1;have HR:=hs.2;have hz:=HG.size;have hp:=HR.sz));clear hx)|(go_at_call 131;obtain ⟨x,hx⟩ : ∃ x,x = (n == 0):=⟨_,rfl⟩;rw [← hx] at HE ⊢;clear hx;cases x;all_goals (first|((with_reducible refine (HN.out _).mono ?_);rintro e w1 ⟨rfl,rfl⟩)|((with_reducible refine (HY.out _).mono ?_);rintro e w1 ⟨rfl,rfl⟩))))
 ·(exact ⟨rfl,.inl ⟨_,HE.symm,rfl,HG⟩⟩)
 ·(exact ⟨rfl,.inl ⟨_,HE.symm,rfl,HG⟩⟩)
 ·(refine bodyPost_end (results_none rfl _ _ _) rfl ?_;exact .inr ⟨_,_,_,HE.symm,rfl,rfl,HG,HR⟩)
end Go.Proofs.YtnojgiflgmnjlaaGreatDoor
namespace Go.Proofs.YtnojgiflgmnjlaaGreatDoor
open Go.RowKit
def mbV0 (m : Cf.Mb) : Value:=.agg #[.int .i64 m.ac,.int .i64 m.nm,.int .i64 m.ds,.int .i64 0,.int .i64 0,.slice none 0 0,.slice none 0 0]
def VM0 (_ : World) (_ : Nat) (v : Value) (m : Cf.Mb) : Prop:=v = mbV0 m ∧ m.st = 0 ∧ m.lc = 0 ∧ m.code = [] ∧ m.hs = []
def hnV (h : Cf.Hn) : Value:=.agg #[.int .i64 h.f,.int .i64 h.t,.int .i64 h.a,.int .i64 h.y]
def VH (_ : World) (_ : Nat) (v : Value) (h : Cf.Hn) : Prop:=v = hnV h
theorem Rdr.keep {w w' : World} {pb : Nat} {code : Int} {bs : List UInt8} (h : Rdr w pb code bs) (hb : Below (pb + 1) w w') : Rdr w' pb code bs:=h.below hb (Nat.lt_succ_self pb)
set_option maxHeartbeats 400000 in
theorem mem_any (pb : Nat) (code : Int) (bs : List UInt8) (w : World) (hr : Rdr w pb code bs) :
  Calls Tryz.prog 167 #[.pointer (some ⟨pb,0,none⟩)] w (RP pb code (Cf.mbP bs) VM0 w):=by
 have HU:=hid (fun bs W (h : Rdr W pb code bs)=>u2_any pb code bs W h)
 have HR:=hr
 have HG:=grown_refl' w (some pb)
 have hp0:=hr.sz
 obtain ⟨X,HE⟩ : ∃ X,Cf.mbP bs = X:=⟨_,rfl⟩
 rw [HE]
 unfold Cf.mbP at HE
 unfold RP L3.pan VI at HU
 unfold RP L3.pan VM0 mbV0
 clear hr
 go_enter Tryz.func167,Tryz.ntmps167
 go_wp2_with ((go_at_call 133;refine (HU.out _ _ (by first|exact HR|exact HR.below (n:=pb + 1) BLw (Nat.lt_succ_self pb))).mono ?_;rintro e W h;rcases h with ⟨er,hx,rfl,hg⟩|⟨n,r,v,hx,rfl,rfl,hs⟩;all_goals (first|(rw [Cf.bnd_err hx] at HE;have HG : w.grownBy W (some pb):=L3.grown_trans GRw hg)|(have hn:=Cf.u2_range hx;rw [Cf.bnd_ok hx] at HE;have HG : w.grownBy W (some pb):=L3.grown_trans GRw hs.1;have HR:=hs.2;have hz:=HG.size;have hp:=HR.sz));clear hx);all_goals (try (have HX:=(show L3.BX W w.heap.size #[.int .i64 0,.int .i64 0,.int .i64 0,.int .i64 0,.int .i64 0,.slice none 0 0,.slice none 0 0] 42 from (by first|exact L3.BX.grown HX hs.1 (fun e=>by have:=Option.some.inj e;omega)|exact L3.BX.grown (L3.BX.new w _ _) hs.1 (fun e=>by have:=Option.some.inj e;omega)));obtain ⟨x0,x1,x2,x3,x4,x5,x6⟩:=HX.cells7;have y0:=HX.frozen 0;have y1:=HX.frozen 1;have y2:=HX.frozen 2;have y3:=HX.frozen 3;have y4:=HX.frozen 4;have y5:=HX.frozen 5;have y6:=HX.frozen 6)))
 ·(exact ⟨rfl,.inl ⟨_,HE.symm,rfl,HG⟩⟩)
 ·(exact ⟨rfl,.inl ⟨_,HE.symm,rfl,HG⟩⟩)
 ·(exact ⟨rfl,.inl ⟨_,HE.symm,rfl,HG⟩⟩)
 ·exact bodyPost_ret (v:=.agg #[.int .i64 _,.int .i64 _,.int .i64 n,.int .i64 0,.int .i64 0,.slice none 0 0,.slice none 0 0]) (by simp [results,Tryz.results167,go_sem,x0,x1,x2,x3,x4,x5,x6]) rfl (.inr ⟨_,_,_,HE.symm,rfl,⟨rfl,rfl,rfl,rfl,rfl⟩,GRw,HR.keep BLw⟩)
set_option maxHeartbeats 400000 in
theorem handler_any (pb : Nat) (code : Int) (bs : List UInt8) (w : World) (hr : Rdr w pb code bs) :
  Calls Tryz.prog 169 #[.pointer (some ⟨pb,0,none⟩)] w (RP pb code (Cf.hnP bs) VH w):=by
 have HU:=hid (fun bs W (h : Rdr W pb code bs)=>u2_any pb code bs W h)
 have HR:=hr
 have HG:=grown_refl' w (some pb)
 have hp0:=hr.sz
 obtain ⟨X,HE⟩ : ∃ X,Cf.hnP bs = X:=⟨_,rfl⟩
 rw [HE]
 unfold Cf.hnP at HE
 unfold RP L3.pan VI at HU
 unfold RP L3.pan VH hnV
 clear hr
 go_enter Tryz.func169,Tryz.ntmps169
 go_wp2_with ((go_at_call 133;refine (HU.out _ _ (by first|exact HR|exact HR.below (n:=pb + 1) BLw (Nat.lt_succ_self pb))).mono ?_;rintro e W h;rcases h with ⟨er,hx,rfl,hg⟩|⟨n,r,v,hx,rfl,rfl,hs⟩;all_goals (first|(rw [Cf.bnd_err hx] at HE;have HG : w.grownBy W (some pb):=L3.grown_trans GRw hg)|(have hn:=Cf.u2_range hx;rw [Cf.bnd_ok hx] at HE;have HG : w.grownBy W (some pb):=L3.grown_trans GRw hs.1;have HR:=hs.2;have hz:=HG.size;have hp:=HR.sz));clear hx);all_goals (try (have HX:=(show L3.BX W w.heap.size #[.int .i64 0,.int .i64 0,.int .i64 0,.int .i64 0] 58 from (by first|exact L3.BX.grown HX hs.1 (fun e=>by have:=Option.some.inj e;omega)|exact L3.BX.grown (L3.BX.new w _ _) hs.1 (fun e=>by have:=Option.some.inj e;omega)));have x0:=HX.cell 0;have x1:=HX.cell 1;have x2:=HX.cell 2;have x3:=HX.cell 3;simp at x0 x1 x2 x3;have y0:=HX.frozen 0;have y1:=HX.frozen 1;have y2:=HX.frozen 2;have y3:=HX.frozen 3)))
 ·(exact ⟨rfl,.inl ⟨_,HE.symm,rfl,HG⟩⟩)
 ·(exact ⟨rfl,.inl ⟨_,HE.symm,rfl,HG⟩⟩)
 ·(exact ⟨rfl,.inl ⟨_,HE.symm,rfl,HG⟩⟩)
 ·(exact ⟨rfl,.inl ⟨_,HE.symm,rfl,HG⟩⟩)
 ·exact bodyPost_ret (v:=.agg #[.int .i64 _,.int .i64 _,.int .i64 _,.int .i64 n]) (by simp [results,Tryz.results169,go_sem,x0,x1,x2,x3]) rfl (.inr ⟨_,_,_,HE.symm,rfl,rfl,GRw,HR.keep BLw⟩)
end Go.Proofs.YtnojgiflgmnjlaaGreatDoor
namespace Go.Proofs.YtnojgiflgmnjlaaGreatDoor
open Go.RowKit
def All2 {α β : Type} (R : α → β → Prop) : List α → List β → Prop
 | [],[]=>True
 | a :: l,b :: m=>R a b ∧ All2 R l m
 | _,_=>False
theorem All2.mono {α β : Type} {R S : α → β → Prop} (h : ∀ a b,R a b → S a b) : ∀ {l : List α} {m : List β},All2 R l m → All2 S l m
 | [],[],_=>trivial
 | _ :: _,_ :: _,k=>⟨h _ _ k.1,k.2.mono h⟩
 | [],_ :: _,k=>k.elim
 | _ :: _,[],k=>k.elim
theorem All2.append {α β : Type} {R : α → β → Prop} : ∀ {l : List α} {m : List β} {a : α} {b : β},All2 R l m → R a b → All2 R (l ++ [a]) (m ++ [b])
 | [],[],_,_,_,h=>⟨h,trivial⟩
 | _ :: _,_ :: _,_,_,h,k=>⟨h.1,h.2.append k⟩
 | [],_ :: _,_,_,h,_=>h.elim
 | _ :: _,[],_,_,h,_=>h.elim
def OMb (w : World) (base : Nat) (cs : List Value) (m : Cf.Mb) : Prop :=
 ∃ cv hv,cs = [.int .i64 m.ac,.int .i64 m.nm,.int .i64 m.ds,.int .i64 m.st,.int .i64 m.lc,cv,hv] ∧ w.ownsRow base 5 1 cv m.code.length (m.code.map L3.bv) ∧ w.ownsRow base 58 4 hv m.hs.length (m.hs.flatMap hL) ∧
  m.code.length ≤ 140737488355328 ∧ m.hs.length ≤ 140737488355328
theorem OMb.len {w : World} {base : Nat} {cs : List Value} {m : Cf.Mb} (h : OMb w base cs m) : cs.length = 7:=by obtain ⟨cv,hv,rfl,-⟩:=h;rfl
theorem owns_apart {w w' : World} {base base' : Nat} {e e' : TypeId} {size size' : Nat} {v v' : Value} {n n' : Nat} {xs xs' : List Value} (h : w.ownsRow base e size v n xs) (k : w.ownsRow base' e' size' v' n' xs') (hne : e ≠ e') (hg : w.grownBy w' v'.ownBlock) : w'.ownsRow base e size v n xs:=by
 refine ⟨h.1,?_⟩
 rcases h.2 with h2|⟨g,cap,cur,hv,hge,hh,r⟩
 ·exact .inl h2
 ·refine .inr ⟨g,cap,cur,hv,hge,?_,r⟩
  rw [hg.block g (Array.getElem?_eq_some_iff.1 hh).1 ?_]
  ·exact hh
  ·intro e2
   rcases k.2 with ⟨rfl,-⟩|⟨g',cap',cur',hv',-,hh',-⟩
   ·simp [Value.ownBlock] at e2
   ·rw [hv'] at e2
    simp only [Value.ownBlock,Option.some.injEq] at e2
    subst e2
    rw [hh] at hh'
    have:=Obj.cells.inj (Option.some.inj hh')
    exact hne this.2.1
theorem OMb.below {w w' : World} {base B : Nat} {cs : List Value} {m : Cf.Mb} (h : OMb w base cs m) (hb : Below B w w') (hB : w.heap.size ≤ B) : OMb w' base cs m:=by
 obtain ⟨cv,hv,h1,h2,h3,h4⟩:=h
 exact ⟨cv,hv,h1,Kit.owns_below h2 hb hB,Kit.owns_below h3 hb hB,h4⟩
theorem OMb.grown {w w' : World} {base r : Nat} {cs : List Value} {m : Cf.Mb} (h : OMb w base cs m) (hg : w.grownBy w' (some r)) (hr : r < base) : OMb w' base cs m:=by
 obtain ⟨cv,hv,h1,h2,h3,h4⟩:=h
 exact ⟨cv,hv,h1,Kit.owns_grown h2 hg hr,Kit.owns_grown h3 hg hr,h4⟩
theorem OMb.mono {w : World} {base base' : Nat} {cs : List Value} {m : Cf.Mb} (h : OMb w base cs m) (hb : base' ≤ base) : OMb w base' cs m:=by
 obtain ⟨cv,hv,h1,h2,h3,h4⟩:=h
 exact ⟨cv,hv,h1,L3.own_mono h2 hb,L3.own_mono h3 hb,h4⟩
theorem OMb.apart {w w' : World} {base base' : Nat} {cs : List Value} {m : Cf.Mb} {v' : Value} {n' : Nat} {xs' : List Value} (h : OMb w base cs m) (k : w.ownsRow base' 42 7 v' n' xs') (hg : w.grownBy w' v'.ownBlock) : OMb w' base cs m:=by
 obtain ⟨cv,hv,h1,h2,h3,h4⟩:=h
 exact ⟨cv,hv,h1,owns_apart h2 k (by decide) hg,owns_apart h3 k (by decide) hg,h4⟩
def OMs (w : World) (base : Nat) (v : Value) (ms : List Cf.Mb) : Prop:=∃ rs,All2 (OMb w base) rs ms ∧ w.ownsRow base 42 7 v ms.length rs.flatten
theorem OMs.below {w w' : World} {base B : Nat} {v : Value} {ms : List Cf.Mb} (h : OMs w base v ms) (hb : Below B w w') (hB : w.heap.size ≤ B) : OMs w' base v ms:=by
 obtain ⟨rs,h1,h2⟩:=h
 exact ⟨rs,h1.mono fun _ _ k=>k.below hb hB,Kit.owns_below h2 hb hB⟩
theorem OMs.grown {w w' : World} {base r : Nat} {v : Value} {ms : List Cf.Mb} (h : OMs w base v ms) (hg : w.grownBy w' (some r)) (hr : r < base) : OMs w' base v ms:=by
 obtain ⟨rs,h1,h2⟩:=h
 exact ⟨rs,h1.mono fun _ _ k=>k.grown hg hr,Kit.owns_grown h2 hg hr⟩
theorem OMs.mono {w : World} {base base' : Nat} {v : Value} {ms : List Cf.Mb} (h : OMs w base v ms) (hb : base' ≤ base) : OMs w base' v ms:=by
 obtain ⟨rs,h1,h2⟩:=h
 exact ⟨rs,h1.mono fun _ _ k=>k.mono hb,L3.own_mono h2 hb⟩
theorem OMs.nil (w : World) (base : Nat) : OMs w base (.slice none 0 0) []:=⟨[],trivial,rfl,.inl ⟨rfl,rfl⟩⟩
theorem OMs.len {w : World} {base : Nat} {v : Value} {ms : List Cf.Mb} (h : OMs w base v ms) : ∃ a cap,v = .slice a ms.length cap:=by
 obtain ⟨rs,h1,h2⟩:=h
 exact L3.own_form h2
theorem bs_of_owns {w : World} {base : Nat} {v : Value} {l : List UInt8} (h : w.ownsRow base 5 1 v l.length (l.map L3.bv)) (hl : l.length ≤ 140737488355328) : L3.Bs w.heap.size w v l:=by
 refine ⟨by omega,?_⟩
 rcases (Kit.isS_of_owns h hl).2.2 with ⟨h0,a,cap,rfl⟩|⟨b,o,cap,rfl,hcap,hlt,hc⟩
 ·exact .inl ⟨List.length_eq_zero_iff.1 h0,a,cap,rfl⟩
 ·exact .inr ⟨b,o,cap,rfl,hcap,hlt,fun i c hi=>hc i _ (by rw [List.getElem?_map,hi];rfl)⟩
theorem OMb.reads {w : World} {base : Nat} {cs : List Value} {m : Cf.Mb} (h : OMb w base cs m) : MbR w cs m:=by
 obtain ⟨cv,hv,h1,h2,h3,h4,h5⟩:=h
 exact ⟨cv,hv,h1,bs_of_owns h2 h4,Kit.isS_of_owns h3 h5,h4⟩
theorem reads_all {w : World} : ∀ {rs : List (List Value)} {ms : List Cf.Mb},All2 (MbR w) rs ms → MsC w rs ms
 | [],[],_=>trivial
 | _ :: _,_ :: _,h=>⟨h.1,reads_all h.2⟩
 | [],_ :: _,h=>h.elim
 | _ :: _,[],h=>h.elim
theorem OMs.reads {w : World} {base : Nat} {v : Value} {ms : List Cf.Mb} (h : OMs w base v ms) (hl : ms.length ≤ 140737488355328) : MsR w v ms:=by
 obtain ⟨rs,h1,h2⟩:=h
 exact ⟨rs,reads_all (h1.mono fun _ _ k=>k.reads),Kit.isS_of_owns h2 hl⟩
def OCl (w : World) (base : Nat) (vs : Array Value) (c : Cf.Cl) : Prop :=
 ∃ pv fv mv,vs = #[.int .i64 c.mi,.int .i64 c.ma,pv,.int .i64 c.ac,.int .i64 c.th,.int .i64 c.su,fv,mv] ∧ L3.OwnC w base pv c.pool ∧ OMs w base fv c.fs ∧ OMs w base mv c.ms
theorem OCl.below {w w' : World} {base B : Nat} {vs : Array Value} {c : Cf.Cl} (h : OCl w base vs c) (hb : Below B w w') (hB : w.heap.size ≤ B) : OCl w' base vs c:=by
 obtain ⟨pv,fv,mv,h1,h2,h3,h4⟩:=h
 exact ⟨pv,fv,mv,h1,Kit.owns_below h2 hb hB,h3.below hb hB,h4.below hb hB⟩
theorem OCl.grown {w w' : World} {base r : Nat} {vs : Array Value} {c : Cf.Cl} (h : OCl w base vs c) (hg : w.grownBy w' (some r)) (hr : r < base) : OCl w' base vs c:=by
 obtain ⟨pv,fv,mv,h1,h2,h3,h4⟩:=h
 exact ⟨pv,fv,mv,h1,Kit.owns_grown h2 hg hr,h3.grown hg hr,h4.grown hg hr⟩
theorem OCl.mono {w : World} {base base' : Nat} {vs : Array Value} {c : Cf.Cl} (h : OCl w base vs c) (hb : base' ≤ base) : OCl w base' vs c:=by
 obtain ⟨pv,fv,mv,h1,h2,h3,h4⟩:=h
 exact ⟨pv,fv,mv,h1,L3.own_mono h2 hb,h3.mono hb,h4.mono hb⟩
def Cf.Sz (c : Cf.Cl) : Prop:=c.pool.length ≤ 140737488355328 ∧ c.fs.length ≤ 140737488355328 ∧ c.ms.length ≤ 140737488355328
theorem OCl.reads {w : World} {base : Nat} {vs : Array Value} {c : Cf.Cl} (h : OCl w base vs c) (hs : Cf.Sz c) : ClR w vs c:=by
 obtain ⟨pv,fv,mv,h1,h2,h3,h4⟩:=h
 exact ⟨pv,fv,mv,h1,Kit.isS_of_owns h2 hs.1,h3.reads hs.2.1,h4.reads hs.2.2⟩
def Cf.listA {α : Type} (p : Cf.Ps α) (k : Nat) (xs : List α) : Cf.Ps (List α):=fun l=>match Cf.listP p k l with
 | .error e=>.error e
 | .ok (ys,r)=>.ok (xs ++ ys,r)
theorem Cf.listA_nil {α : Type} (p : Cf.Ps α) (k : Nat) (l : List UInt8) : Cf.listA p k [] l = Cf.listP p k l:=by
 unfold Cf.listA
 cases Cf.listP p k l <;> rfl
theorem Cf.listA_zero {α : Type} (p : Cf.Ps α) (xs : List α) (l : List UInt8) : Cf.listA p 0 xs l = .ok (xs,l):=by
 unfold Cf.listA Cf.listP Cf.ret
 dsimp only
 rw [List.append_nil]
theorem Cf.listA_err {α : Type} {p : Cf.Ps α} {k : Nat} {xs : List α} {l : List UInt8} {e : Int} (h : p l = .error e) : Cf.listA p (k + 1) xs l = .error e:=by
 unfold Cf.listA Cf.listP
 rw [Cf.bnd_err h]
theorem Cf.listA_ok {α : Type} {p : Cf.Ps α} {k : Nat} {xs : List α} {l r : List UInt8} {a : α} (h : p l = .ok (a,r)) : Cf.listA p (k + 1) xs l = Cf.listA p k (xs ++ [a]) r:=by
 unfold Cf.listA
 rw [Cf.listP,Cf.bnd_ok h]
 unfold Cf.bnd Cf.ret
 cases Cf.listP p k r with
 | error e=>rfl
 | ok y =>
  obtain ⟨ys,r2⟩:=y
  dsimp only
  rw [List.append_assoc,List.singleton_append]
theorem infoH : (Tryz.prog.info? 58).map (fun i=>(i.zero,i.size,i.bytes)) = some (some (.agg #[.int .i64 0,.int .i64 0,.int .i64 0,.int .i64 0]),4,32):=by kernel_rfl
theorem infoM : (Tryz.prog.info? 42).map (fun i=>(i.zero,i.size,i.bytes)) = some (some (.agg #[.int .i64 0,.int .i64 0,.int .i64 0,.int .i64 0,.int .i64 0,.slice none 0 0,.slice none 0 0]),7,88):=by kernel_rfl
end Go.Proofs.YtnojgiflgmnjlaaGreatDoor
namespace Go.Proofs.YtnojgiflgmnjlaaGreatDoor
open Go.RowKit
theorem news_h (w : World) (h : Cf.Hn) : ∀ j u,(hL h)[j]? = some u → (w.alloc (.cells #[.int .i64 h.f,.int .i64 h.t,.int .i64 h.a,.int .i64 h.y] 58)).cell? ((⟨w.heap.size,0,none⟩ : Addr).add j) = some u:=by
 intro j u hj
 match j,hj with
 | 0,hj|1,hj|2,hj|3,hj=>simp [hL] at hj;subst hj;simp [Addr.add,go_sem]
 | j + 4,hj=>simp [hL] at hj
theorem ones_h (h : Cf.Hn) : ∀ u ∈ hL h,u.oneCell' = true:=by
 intro u hu
 simp [hL] at hu
 rcases hu with rfl|rfl|rfl|rfl <;> rfl
theorem grown_row {w W w' : World} {pb : Nat} {v : Value} {e : TypeId} {size n : Nat} {xs : List Value} (h : w.grownBy W (some pb)) (ho : W.ownsRow w.heap.size e size v n xs) (hg : W.grownBy w' v.ownBlock) : w.grownBy w' (some pb) :=
 ⟨hg.os.trans h.os,hg.tape.trans h.tape,hg.output.trans h.output,Nat.le_trans h.size hg.size,fun i hi hne =>
  (hg.block i (Nat.lt_of_lt_of_le hi h.size) (fun e=>by have:=Kit.own_base ho i e.symm;omega)).trans (h.block i hi hne)⟩
theorem Rdr.row {w W w' : World} {pb : Nat} {code : Int} {bs : List UInt8} {v : Value} {e : TypeId} {size n : Nat} {xs : List Value} (h : Rdr W pb code bs) (hp : pb < w.heap.size) (ho : W.ownsRow w.heap.size e size v n xs) (hg : W.grownBy w' v.ownBlock) : Rdr w' pb code bs :=
 h.grown hg (fun k e=>by have:=Kit.own_base ho k e;omega)
def handlerFn : Value:=.func (.func 169) #[] #[]
def VHs (w : World) (base : Nat) (v : Value) (hs : List Cf.Hn) : Prop:=w.ownsRow base 58 4 v hs.length (hs.flatMap hL) ∧ hs.length ≤ 65535
set_option maxHeartbeats 1000000 in
theorem hlist_any (pb : Nat) (code : Int) (bs : List UInt8) (w : World) (hr : Rdr w pb code bs) :
  Calls Tryz.prog 168 #[.pointer (some ⟨pb,0,none⟩),handlerFn] w (RP pb code (Cf.listN Cf.hnP bs) VHs w):=by
 have HU:=hid (fun bs W (h : Rdr W pb code bs)=>u2_any pb code bs W h)
 have HH:=hid (fun bs W (h : Rdr W pb code bs)=>handler_any pb code bs W h)
 obtain ⟨i0,hi,hz0,hz1,hz2⟩:=info_parts infoH
 have HR:=hr
 have HG:=grown_refl' w (some pb)
 have hp0:=hr.sz
 obtain ⟨X,HE⟩ : ∃ X,Cf.listN Cf.hnP bs = X:=⟨_,rfl⟩
 rw [HE]
 unfold Cf.listN at HE
 unfold RP L3.pan VI at HU
 unfold RP L3.pan VH hnV at HH
 unfold RP L3.pan VHs handlerFn
 clear hr
 go_enter Tryz.func168,Tryz.ntmps168
 go_wp2_with (go_at_call 133;refine (HU.out _ _ (by first|exact HR|exact HR.below (n:=pb + 1) BLw (Nat.lt_succ_self pb))).mono ?_;rintro e W h;rcases h with ⟨er,hx,rfl,hg⟩|⟨n,r,v,hx,rfl,rfl,hs⟩;all_goals (first|(rw [Cf.bnd_err hx] at HE;have HG : w.grownBy W (some pb):=L3.grown_trans GRw hg)|(have hn:=Cf.u2_range hx;rw [Cf.bnd_ok hx] at HE;have HG : w.grownBy W (some pb):=L3.grown_trans GRw hs.1;have HR:=hs.2;have hz:=HG.size;have hp:=HR.sz));clear hx)
 ·(exact ⟨rfl,.inl ⟨_,HE.symm,rfl,HG⟩⟩)
 ·obtain ⟨N,rfl⟩:=Int.eq_ofNat_of_zero_le hn.1
  rw [← Cf.listA_nil,Int.toNat_natCast] at HE
  go_loopw [6,10] (fun v i wr=>∃ (xs : List Cf.Hn) (j : Nat) (rest : List UInt8),i = .int .i64 j ∧ j ≤ N ∧ xs.length = j ∧ wr.ownsRow w.heap.size 58 4 v xs.length (xs.flatMap hL) ∧ w.grownBy wr (some pb) ∧ Rdr wr pb code rest ∧ Cf.listA Cf.hnP (N - j) xs rest = X) (fun _ i _=>N - (intOf i).toNat)
  case atStart=>exact ⟨[],0,r,rfl,by omega,rfl,⟨rfl,.inl ⟨rfl,rfl⟩⟩,HG,HR,HE⟩
  case round =>
   obtain ⟨xs,j,rest,rfl,hj,hxl,HO,HG,HR,HE⟩:=hrel
   have hz:=HG.size
   obtain ⟨a0,cap0,rfl⟩:=L3.own_form HO
   by_cases hlt : j < N
   ·obtain ⟨k,hk⟩ : ∃ k,N - j = k + 1:=⟨N - j - 1,by omega⟩
    rw [hk] at HE
    have hji : (j : Int) < N:=by omega
    have HXL:=hid hxl
    clear hxl
    go_wp2_with (first|(go_at_call 169;refine (HH.out _ _ (by first|exact HR|exact HR.below (n:=pb + 1) BLw (Nat.lt_succ_self pb))).mono ?_;rintro e W h;rcases h with ⟨er,hx,rfl,hg⟩|⟨x,r,v,hx,rfl,rfl,hs⟩;all_goals (first|(rw [Cf.listA_err hx] at HE;have HG : w.grownBy W (some pb):=L3.grown_trans GRw hg)|(rw [Cf.listA_ok hx] at HE;have HG : w.grownBy W (some pb):=L3.grown_trans GRw hs.1;have HR:=hs.2;have hz:=HG.size;have hp:=HR.sz;have HO:=Kit.owns_grown HO hs.1 (by omega)));clear hx)|(at_builtin;refine wpList_append_own_at _ rfl (.tmp 12) (.tmp 16) 40 rfl w.heap.size 58 i0 _ 4 32 Tryz.underlying40 hi hz0 hz1 hz2 rfl (by decide) _ _ _ rfl (HO.alloc _) ⟨W.heap.size,0,none⟩ 1 1 (hL x) rfl rfl (news_h W x) (ones_h x) (by (have:=HXL.out;unfold maxLen;omega)) (by (have:=HXL.out;omega)) (by simp only [World.size_alloc];omega) ?_;intro v' w' hown' hgrow' _ hbk'))
    ·(exact ⟨rfl,.inl ⟨_,HE.symm,rfl,HG⟩⟩)
    ·go_roundw
     case rel=>exact ⟨xs ++ [x],j + 1,r,by go_num,by omega,by simp [HXL.out],by simpa [hL] using hown',grown_row GRw (HO.alloc _) hgrow',(HR.keep (w':=W.alloc _) BLw).row hp0 (HO.alloc _) hgrow',by rw [show N - (j + 1) = k by omega];exact HE⟩
     case measure=>simp [intOf];omega
   ·obtain rfl : j = N:=by omega
    rw [Nat.sub_self,Cf.listA_zero] at HE
    go_wp2
    go_ret
    exact .inr ⟨_,_,_,HE.symm,rfl,⟨HO,by omega⟩,HG,HR⟩
end Go.Proofs.YtnojgiflgmnjlaaGreatDoor
namespace Go.Proofs.YtnojgiflgmnjlaaGreatDoor
open Go.RowKit
theorem owns_empty {w : World} {base : Nat} {e : TypeId} {size : Nat} (hB : base ≤ w.heap.size) : (w.alloc (.cells #[] e)).ownsRow base e size (.slice (some ⟨w.heap.size,0,none⟩) 0 0) 0 [] :=
 ⟨by simp,.inr ⟨w.heap.size,0,#[],rfl,hB,heap_alloc_last w _,by omega,by unfold maxLen;omega,by simp,by simp⟩⟩
def ClonePost (e : TypeId) (size n : Nat) (xs : List Value) (w : World) (en : Ending) (w' : World) : Prop:=∃ v,en = .returned v ∧ w'.ownsRow w.heap.size e size v n xs ∧ Below w.heap.size w w'
theorem infoB : (Tryz.prog.info? 5).map (fun i=>(i.zero,i.size,i.bytes)) = some (some (.int .u8 0),1,1):=by kernel_rfl
set_option maxHeartbeats 400000 in
theorem bclone_some (n : Nat) (xs : List Value) (ad : Addr) (cap : Nat) (w : World) (hx : xs.length = n * 1) (hn : n * 1 ≤ 140737488355328) (hc : ∀ j u,xs[j]? = some u → w.cell? (ad.add j) = some u) (h1c : ∀ u ∈ xs,u.oneCell' = true) : Calls Tryz.prog 129 #[.slice (some ad) n cap] w (ClonePost 5 1 n xs w):=by
 obtain ⟨i0,hi,hz0,hz1,hz2⟩:=info_parts infoB
 have hnil:=fun (W : World) (a : Option Addr) (n c : Nat)=>Lib.run_eql_slice_nil (P:=Tryz.prog) W 22 5 a n c 0 0 Tryz.underlying22
 have hlt : ∀ j u,xs[j]? = some u → (w.alloc (.cells #[] 5)).cell? (ad.add j) = some u:=fun j u h=>by
  have h2:=hc j u h
  rw [World.cell?_alloc_lt _ _ _ (World.block_lt_of_cell? w _ h2)]
  exact h2
 have HL:=hid hlt
 have HLen:=hid hx
 have H1:=hid h1c
 clear hc hlt hx h1c
 go_enter Tryz.func129,Tryz.ntmps129
 go_wp2_with (at_builtin;go_loud (refine wpList_append_own _ rfl (.tmp 5) (.tmp 6) 22 rfl w.heap.size 5 i0 _ 1 1 Tryz.underlying22 hi hz0 hz1 hz2 rfl (by decide) _ 0 [] rfl (owns_empty (Nat.le_refl _)) ad n cap xs rfl HLen.out HL.out H1.out (by unfold maxLen;omega) (by omega) (by simp) ?_);intro v1 w1 hown1 hgrow1 _)
 go_ret
 refine ⟨_,rfl,by simpa using hown1,Kit.below_grown BLw hgrow1 (by simp) (fun k hk=>?_)⟩
 have : some w.heap.size = some k:=hk
 exact Nat.le_of_eq (Option.some.inj this)
theorem bclone_nil (c : Nat) (w : World) : Calls Tryz.prog 129 #[.slice none 0 c] w (ClonePost 5 1 0 [] w):=by
 have hnil:=fun (W : World) (a : Option Addr) (n c : Nat)=>Lib.run_eql_slice_nil (P:=Tryz.prog) W 22 5 a n c 0 0 Tryz.underlying22
 go_enter Tryz.func129,Tryz.ntmps129
 go_wp2
 go_ret
 exact ⟨_,rfl,⟨rfl,.inl ⟨rfl,rfl⟩⟩,BLw⟩
theorem bclone_any (n : Nat) (xs : List Value) (v : Value) (w : World) (hv : Kit.IsS 1 w v n xs) (hn : n * 1 ≤ 140737488355328) (h1c : ∀ u ∈ xs,u.oneCell' = true) : Calls Tryz.prog 129 #[v] w (ClonePost 5 1 n xs w):=by
 rcases hv.2.2 with ⟨rfl,a,cap,rfl⟩|⟨b,o,cap,rfl,hl,hlt,hc⟩
 ·have hxs : xs = []:=List.length_eq_zero_iff.1 (by have:=hv.1;omega)
  subst hxs
  cases a with
  | none=>exact bclone_nil cap w
  | some ad=>exact bclone_some 0 [] ad cap w rfl (by omega) (fun j u h=>by simp at h) (fun u h=>by cases h)
 ·exact bclone_some n xs ⟨b,o,none⟩ cap w hv.1 hn (fun j u h=>by rw [Go.WideShapes.add_plain];exact hc j u h) h1c
set_option maxHeartbeats 400000 in
theorem hclone_some (n : Nat) (xs : List Value) (ad : Addr) (cap : Nat) (w : World) (hx : xs.length = n * 4) (hn : n * 32 ≤ 140737488355328) (hc : ∀ j u,xs[j]? = some u → w.cell? (ad.add j) = some u) (h1c : ∀ u ∈ xs,u.oneCell' = true) : Calls Tryz.prog 130 #[.slice (some ad) n cap] w (ClonePost 58 4 n xs w):=by
 obtain ⟨i0,hi,hz0,hz1,hz2⟩:=info_parts infoH
 have hnil:=fun (W : World) (a : Option Addr) (n c : Nat)=>Lib.run_eql_slice_nil (P:=Tryz.prog) W 40 58 a n c 0 0 Tryz.underlying40
 have hlt : ∀ j u,xs[j]? = some u → (w.alloc (.cells #[] 58)).cell? (ad.add j) = some u:=fun j u h=>by
  have h2:=hc j u h
  rw [World.cell?_alloc_lt _ _ _ (World.block_lt_of_cell? w _ h2)]
  exact h2
 have HL:=hid hlt
 have HLen:=hid hx
 have H1:=hid h1c
 clear hc hlt hx h1c
 go_enter Tryz.func130,Tryz.ntmps130
 go_wp2_with (at_builtin;go_loud (refine wpList_append_own _ rfl (.tmp 5) (.tmp 6) 40 rfl w.heap.size 58 i0 _ 4 32 Tryz.underlying40 hi hz0 hz1 hz2 rfl (by decide) _ 0 [] rfl (owns_empty (Nat.le_refl _)) ad n cap xs rfl HLen.out HL.out H1.out (by unfold maxLen;omega) (by omega) (by simp) ?_);intro v1 w1 hown1 hgrow1 _)
 go_ret
 refine ⟨_,rfl,by simpa using hown1,Kit.below_grown BLw hgrow1 (by simp) (fun k hk=>?_)⟩
 have : some w.heap.size = some k:=hk
 exact Nat.le_of_eq (Option.some.inj this)
theorem hclone_nil (c : Nat) (w : World) : Calls Tryz.prog 130 #[.slice none 0 c] w (ClonePost 58 4 0 [] w):=by
 have hnil:=fun (W : World) (a : Option Addr) (n c : Nat)=>Lib.run_eql_slice_nil (P:=Tryz.prog) W 40 58 a n c 0 0 Tryz.underlying40
 go_enter Tryz.func130,Tryz.ntmps130
 go_wp2
 go_ret
 exact ⟨_,rfl,⟨rfl,.inl ⟨rfl,rfl⟩⟩,BLw⟩
theorem hclone_any (n : Nat) (xs : List Value) (v : Value) (w : World) (hv : Kit.IsS 4 w v n xs) (hn : n * 32 ≤ 140737488355328) (h1c : ∀ u ∈ xs,u.oneCell' = true) : Calls Tryz.prog 130 #[v] w (ClonePost 58 4 n xs w):=by
 rcases hv.2.2 with ⟨rfl,a,cap,rfl⟩|⟨b,o,cap,rfl,hl,hlt,hc⟩
 ·have hxs : xs = []:=List.length_eq_zero_iff.1 (by have:=hv.1;omega)
  subst hxs
  cases a with
  | none=>exact hclone_nil cap w
  | some ad=>exact hclone_some 0 [] ad cap w rfl (by omega) (fun j u h=>by simp at h) (fun u h=>by cases h)
 ·exact hclone_some n xs ⟨b,o,none⟩ cap w hv.1 hn (fun j u h=>by rw [Go.WideShapes.add_plain];exact hc j u h) h1c
set_option maxHeartbeats 400000 in
theorem mclone_some (n : Nat) (xs : List Value) (ad : Addr) (cap : Nat) (w : World) (hx : xs.length = n * 7) (hn : n * 88 ≤ 140737488355328) (hc : ∀ j u,xs[j]? = some u → w.cell? (ad.add j) = some u) (h1c : ∀ u ∈ xs,u.oneCell' = true) : Calls Tryz.prog 128 #[.slice (some ad) n cap] w (ClonePost 42 7 n xs w):=by
 obtain ⟨i0,hi,hz0,hz1,hz2⟩:=info_parts infoM
 have hnil:=fun (W : World) (a : Option Addr) (n c : Nat)=>Lib.run_eql_slice_nil (P:=Tryz.prog) W 24 42 a n c 0 0 Tryz.underlying24
 have hlt : ∀ j u,xs[j]? = some u → (w.alloc (.cells #[] 42)).cell? (ad.add j) = some u:=fun j u h=>by
  have h2:=hc j u h
  rw [World.cell?_alloc_lt _ _ _ (World.block_lt_of_cell? w _ h2)]
  exact h2
 have HL:=hid hlt
 have HLen:=hid hx
 have H1:=hid h1c
 clear hc hlt hx h1c
 go_enter Tryz.func128,Tryz.ntmps128
 go_wp2_with (at_builtin;go_loud (refine wpList_append_own _ rfl (.tmp 5) (.tmp 6) 24 rfl w.heap.size 42 i0 _ 7 88 Tryz.underlying24 hi hz0 hz1 hz2 rfl (by decide) _ 0 [] rfl (owns_empty (Nat.le_refl _)) ad n cap xs rfl HLen.out HL.out H1.out (by unfold maxLen;omega) (by omega) (by simp) ?_);intro v1 w1 hown1 hgrow1 _)
 go_ret
 refine ⟨_,rfl,by simpa using hown1,Kit.below_grown BLw hgrow1 (by simp) (fun k hk=>?_)⟩
 have : some w.heap.size = some k:=hk
 exact Nat.le_of_eq (Option.some.inj this)
theorem mclone_nil (c : Nat) (w : World) : Calls Tryz.prog 128 #[.slice none 0 c] w (ClonePost 42 7 0 [] w):=by
 have hnil:=fun (W : World) (a : Option Addr) (n c : Nat)=>Lib.run_eql_slice_nil (P:=Tryz.prog) W 24 42 a n c 0 0 Tryz.underlying24
 go_enter Tryz.func128,Tryz.ntmps128
 go_wp2
 go_ret
 exact ⟨_,rfl,⟨rfl,.inl ⟨rfl,rfl⟩⟩,BLw⟩
theorem mclone_any (n : Nat) (xs : List Value) (v : Value) (w : World) (hv : Kit.IsS 7 w v n xs) (hn : n * 88 ≤ 140737488355328) (h1c : ∀ u ∈ xs,u.oneCell' = true) : Calls Tryz.prog 128 #[v] w (ClonePost 42 7 n xs w):=by
 rcases hv.2.2 with ⟨rfl,a,cap,rfl⟩|⟨b,o,cap,rfl,hl,hlt,hc⟩
 ·have hxs : xs = []:=List.length_eq_zero_iff.1 (by have:=hv.1;omega)
  subst hxs
  cases a with
  | none=>exact mclone_nil cap w
  | some ad=>exact mclone_some 0 [] ad cap w rfl (by omega) (fun j u h=>by simp at h) (fun u h=>by cases h)
 ·exact mclone_some n xs ⟨b,o,none⟩ cap w hv.1 hn (fun j u h=>by rw [Go.WideShapes.add_plain];exact hc j u h) h1c
theorem isS_of_bs {w : World} {v : Value} {l : List UInt8} (h : L3.Bs w.heap.size w v l) (hl : l.length ≤ 140737488355328) : Kit.IsS 1 w v l.length (l.map L3.bv):=by
 refine ⟨by simp,hl,?_⟩
 rcases h.2 with ⟨rfl,a,cap,rfl⟩|⟨b,o,cap,rfl,hc,hb,hx⟩
 ·exact .inl ⟨rfl,a,cap,rfl⟩
 ·refine .inr ⟨b,o,cap,rfl,hc,hb,fun i u hi=>?_⟩
  rw [List.getElem?_map,Option.map_eq_some_iff] at hi
  obtain ⟨c,hc2,rfl⟩:=hi
  exact hx i c hc2
theorem ones_b (l : List UInt8) : ∀ u ∈ l.map L3.bv,u.oneCell' = true:=by
 intro u hu
 rw [List.mem_map] at hu
 obtain ⟨b,-,rfl⟩:=hu
 rfl
theorem ones_hs (l : List Cf.Hn) : ∀ u ∈ l.flatMap hL,u.oneCell' = true:=by
 intro u hu
 rw [List.mem_flatMap] at hu
 obtain ⟨b,-,hb⟩:=hu
 exact ones_h b u hb
end Go.Proofs.YtnojgiflgmnjlaaGreatDoor
