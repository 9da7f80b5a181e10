/- Own texts for the claim, part 20. -/
import Derived.Test.YtnojgiflgmnjlaaGreatDoorZD19
import Derived.Deep.DeepCutAuto
set_option maxRecDepth 100000
namespace Go.Proofs.YtnojgiflgmnjlaaGreatDoor
open Go.RowKit
namespace Cf
theorem acc_in {x : Int} {k : Nat} (hk : k < 9223372036854775808) (h6 : L3.I6 x) (h : accB (k : Int) x = false) : 0 ≤ x ∧ x ≤ k:=by
 unfold accB at h
 have h0 : bits .andNot .i64 x k = 0:=by simpa using h
 have h1 : IntKind.i64.wrap (((BitVec.ofInt 64 x &&& ~~~(BitVec.ofInt 64 (k : Int))).toNat : Nat) : Int) = 0:=h0
 have hb:=(BitVec.ofInt 64 x &&& ~~~(BitVec.ofInt 64 (k : Int))).isLt
 rw [IntKind.wrap_i64] at h1
 have h2 : (BitVec.ofInt 64 x &&& ~~~(BitVec.ofInt 64 (k : Int))).toNat = 0:=by omega
 have h3 : BitVec.ofInt 64 x &&& ~~~(BitVec.ofInt 64 (k : Int)) = 0#64:=BitVec.eq_of_toNat_eq (by simpa using h2)
 have hx : BitVec.ofInt 64 x = BitVec.ofInt 64 x &&& BitVec.ofInt 64 (k : Int):=by
  apply BitVec.eq_of_getLsbD_eq
  intro i hi
  have h4:=congrArg (fun b=>b.getLsbD i) h3
  simp only [BitVec.getLsbD_and,BitVec.getLsbD_not,hi,decide_true,Bool.true_and,BitVec.getLsbD_zero] at h4
  rw [BitVec.getLsbD_and]
  cases h5 : (BitVec.ofInt 64 x).getLsbD i <;> cases h7 : (BitVec.ofInt 64 (k : Int)).getLsbD i <;> simp_all
 have h4:=congrArg BitVec.toNat hx
 rw [BitVec.toNat_and] at h4
 have h5 : (BitVec.ofInt 64 x).toNat &&& (BitVec.ofInt 64 (k : Int)).toNat ≤ (BitVec.ofInt 64 (k : Int)).toNat:=Nat.and_le_right
 rw [← h4,BitVec.toNat_ofInt,BitVec.toNat_ofInt] at h5
 unfold L3.I6 at h6
 have e1 : ((k : Int) % ((2 ^ 64 : Nat) : Int)).toNat = k:=by omega
 rw [e1] at h5
 omega
theorem en_in {P : List L3.Cp.C} {i tag : Int} (h : L3.enA P i tag ≠ none) : 0 ≤ i ∧ i < P.length:=by
 unfold L3.enA at h
 split at h
 ·rename_i h1;exact h1
 ·exact absurd rfl h
theorem tx_in {P : List L3.Cp.C} {i : Int} (h : (L3.txO P i).2 = 0) : 0 ≤ i ∧ i < P.length:=by
 refine en_in (tag:=1) fun e=>?_
 unfold L3.txO at h
 rw [e] at h
 exact absurd h (by show ¬ ((33 : Int) = 0);decide)
theorem cl_in {P : List L3.Cp.C} {i : Int} (h : (L3.clO P i).2 = 0) : 0 ≤ i ∧ i < P.length:=by
 refine en_in (tag:=7) fun e=>?_
 unfold L3.clO at h
 rw [e] at h
 exact absurd h (by show ¬ ((33 : Int) = 0);decide)
theorem cla_in {P : List L3.Cp.C} {i : Int} (h : claE P i = 0) : 0 ≤ i ∧ i < P.length:=by
 unfold claE at h
 split at h
 ·rename_i h1;exact absurd h h1
 ·rename_i h1;exact cl_in (Decidable.not_not.1 h1)
theorem nm_in {P : List L3.Cp.C} {m : Mb} (h : (nmO P m).2 = 0) (h6 : L3.I6 m.ac) (hl : P.length ≤ 4096) : U2 m.ac ∧ U2 m.nm ∧ U2 m.ds:=by
 unfold nmO at h
 split at h
 ·cases h
 ·rename_i h1
  have h1 : accB (9 : Nat) m.ac = false:=by simpa using h1
  have h2:=acc_in (by decide) h6 h1
  split at h
  ·rename_i h3;exact absurd h h3
  ·rename_i h3
   have h3:=Decidable.not_not.1 h3
   unfold mbO at h3
   split at h3
   ·rename_i h4;exact absurd h3 h4
   ·rename_i h4
    have h4:=tx_in (Decidable.not_not.1 h4)
    split at h3
    ·rename_i h5;exact absurd h3 h5
    ·rename_i h5
     have h5:=tx_in (Decidable.not_not.1 h5)
     unfold U2
     omega
theorem dec_in {bs : List UInt8} {l : List L1.Op1.Ins} (h : L1.Op1.DecOut bs l 0) : bs.length ≤ 4096 ∧ 0 < bs.length ∧ ∀ x ∈ l,0 ≤ x.p ∧ x.p < bs.length:=by
 generalize he : (0 : Int) = er at h
 cases h with
 | long=>cases he
 | none=>cases he
 | bad h1 h2 h3 h4=>exact absurd he.symm h4
 | jump=>cases he
 | ok h1 h2 h3 h4=>exact ⟨h1,h2,h3.le.2.2⟩
theorem beg_in {l : List L1.Op1.Ins} {n : Nat} (hl : ∀ x ∈ l,0 ≤ x.p ∧ x.p < n) {p : Int} (h : begB l p = true) : 0 ≤ p ∧ p < n:=by
 unfold begB at h
 rw [List.any_eq_true] at h
 obtain ⟨x,hx,he⟩:=h
 rw [← eq_of_beq he]
 exact hl x hx
theorem hd_in {P : List L3.Cp.C} {l : List L1.Op1.Ins} {n : Nat} {h : Hn} (hl : ∀ x ∈ l,0 ≤ x.p ∧ x.p < n) (hn : n ≤ 4096) (hP : P.length ≤ 4096) (he : hdE P l n h = 0) : HnU h:=by
 unfold hdE at he
 split at he
 ·rename_i h1
  obtain ⟨h1,h2,h3,h4⟩:=h1
  have k2:=beg_in hl h2
  have k3:=beg_in hl h3
  have k4 : 0 ≤ h.t ∧ h.t ≤ n:=by
   rcases h4 with h4|h4
   ·have:=beg_in hl h4;omega
   ·omega
  have k5 : 0 ≤ h.y ∧ h.y < 65536:=by
   split at he
   ·omega
   ·have:=cla_in he;omega
  exact ⟨⟨by omega,by omega⟩,⟨by omega,by omega⟩,⟨by omega,by omega⟩,k5⟩
 ·cases he
theorem fst_zero {R : Nat → Int → Prop} {n : Nat} (h : FstR R n 0) : ∀ k,k < n → R k 0:=by
 rcases h with ⟨-,h⟩|⟨h,-⟩
 ·exact h
 ·exact absurd rfl h
theorem fd_in {P : List L3.Cp.C} {ah : List (ByteArray × ByteArray)} {m : Mb} (h : fdE P ah m = 0) (h6 : L3.I6 m.ac) (hl : P.length ≤ 4096) : MbU m ∧ plainM m = true:=by
 unfold fdE at h
 split at h
 ·rename_i h1;exact absurd h h1
 ·rename_i h1
  obtain ⟨k1,k2,k3⟩:=nm_in (Decidable.not_not.1 h1) h6 hl
  split at h
  ·rename_i h2;exact absurd h h2
  ·split at h
   ·cases h
   ·rename_i h3
    have hp : plainM m = true:=by
     cases e : plainM m with
     | true=>rfl
     | false=>exact absurd (.inr e) h3
    have hq:=hp
    unfold plainM at hq
    obtain ⟨q1,q2,q3,q4⟩:=of_decide_eq_true hq
    refine ⟨⟨k1,k2,k3,⟨by omega,by omega⟩,⟨by omega,by omega⟩,by omega,by omega,fun x hx=>?_⟩,hp⟩
    rw [List.length_eq_zero_iff.1 q4] at hx
    cases hx
theorem me_parts {P : List L3.Cp.C} {ah : List (ByteArray × ByteArray)} {m : Mb} (h : meIs P ah m 0) : (nmO P m).2 = 0 ∧ frE m (L2.mdOut (L2.Ds.bl (nmO P m).1.2)).1 = 0 ∧ CoIs P m 0:=by
 unfold meIs at h
 split at h
 ·rename_i h1;exact absurd h.symm h1
 ·rename_i h1
  split at h
  ·rename_i h2;exact absurd h.symm h2
  ·split at h
   ·cases h
   ·split at h
    ·cases h
    ·split at h
     ·rename_i h5;exact absurd h.symm h5
     ·rename_i h5
      exact ⟨Decidable.not_not.1 h1,Decidable.not_not.1 h5,h⟩
theorem co_parts {P : List L3.Cp.C} {m : Mb} (h : CoIs P m 0) : ∃ l,L1.Op1.DecOut m.code l 0 ∧ m.hs.length ≤ 64 ∧ FstR (HnIs P l m.code.length m.hs) m.hs.length 0:=by
 obtain ⟨l,d,hd,h⟩:=h
 split at h
 ·rename_i h7;exact absurd h.symm h7
 ·rename_i h7
  obtain rfl:=Decidable.not_not.1 h7
  split at h
  ·cases h
  ·rename_i h8
   exact ⟨l,hd,by omega,h⟩
theorem me_sizes {P : List L3.Cp.C} {ah : List (ByteArray × ByteArray)} {m : Mb} (h : meIs P ah m 0) : 0 < m.code.length ∧ m.code.length ≤ 4096 ∧ m.hs.length ≤ 64:=by
 obtain ⟨l,hd,h1,-⟩:=co_parts (me_parts h).2.2
 obtain ⟨d1,d2,-⟩:=dec_in hd
 exact ⟨d2,d1,h1⟩
theorem me_in {P : List L3.Cp.C} {ah : List (ByteArray × ByteArray)} {m : Mb} (h : meIs P ah m 0) (h6 : L3.I6 m.ac) (hl : P.length ≤ 4096) : MbU m:=by
 obtain ⟨q1,q2,q3⟩:=me_parts h
 obtain ⟨k1,k2,k3⟩:=nm_in q1 h6 hl
 obtain ⟨l,hd,h1,h2⟩:=co_parts q3
 obtain ⟨d1,d2,d3⟩:=dec_in hd
 unfold frE at q2
 split at q2
 ·cases q2
 ·rename_i h6
  refine ⟨k1,k2,k3,⟨by omega,by omega⟩,⟨by omega,by omega⟩,by omega,by omega,fun x hx=>?_⟩
  obtain ⟨k,hk⟩:=List.mem_iff_getElem?.1 hx
  have hlt : k < m.hs.length:=(List.getElem?_eq_some_iff.1 hk).1
  obtain ⟨y,hy,he⟩:=fst_zero h2 k hlt
  rw [hk] at hy
  cases hy
  exact hd_in d3 d1 hl he.symm
theorem cix_le (P : List L3.Cp.C) : cix P ≤ P.length:=by
 unfold cix
 split
 ·rename_i j hj
  rw [List.findIdx?_eq_some_iff_getElem] at hj
  obtain ⟨h1,-⟩:=hj
  rw [List.length_drop] at h1
  omega
 ·omega
def Ac6 (c : Cl) : Prop:=L3.I6 c.ac ∧ (∀ m ∈ c.fs,L3.I6 m.ac) ∧ ∀ m ∈ c.ms,L3.I6 m.ac
theorem cl_parts {c : Cl} (h : ClIs c 0) : verB c.mi c.ma = true ∧ L3.CkIs c.pool 0 ∧ c.pool.length ≤ 4096 ∧ accB 33 c.ac = false ∧ claE c.pool c.th = 0 ∧ claE c.pool c.su = 0 ∧ c.fs.length ≤ 256 ∧ c.ms.length ≤ 256 ∧
  (∀ k m,c.fs[k]? = some m → fdE c.pool (ahead c.pool c.fs k) m = 0) ∧ (∀ k m,c.ms[k]? = some m → meIs c.pool (ahead c.pool c.ms k) m 0) ∧ (c.ms ≠ [] → cix c.pool ≠ 0):=by
 have h0 : HdIs c 0:=fst_zero h 0 (by decide)
 have h1 : FstR (FdIs c.pool c.fs) c.fs.length 0:=fst_zero h 1 (by decide)
 have h2 : FstR (MeIs c.pool c.ms) c.ms.length 0:=fst_zero h 2 (by decide)
 have h3 : CnIs c 0:=fst_zero h 3 (by decide)
 unfold HdIs at h0
 split at h0
 ·cases h0
 ·rename_i hv
  obtain ⟨pk,hpk,h0⟩:=h0
  split at h0
  ·rename_i h4;exact absurd h0.symm h4
  ·rename_i h4
   obtain rfl:=Decidable.not_not.1 h4
   split at h0
   ·cases h0
   ·rename_i h5
    split at h0
    ·rename_i h6;exact absurd h0.symm h6
    ·rename_i h6
     split at h0
     ·rename_i h7;exact absurd h0.symm h7
     ·rename_i h7
      split at h0
      ·cases h0
      ·rename_i h8
       refine ⟨by simpa using hv,hpk,(L3.ck_all.1 hpk).1,by simpa using h5,Decidable.not_not.1 h6,Decidable.not_not.1 h7,by omega,by omega,fun k m hm=>?_,fun k m hm=>?_,fun hne=>?_⟩
       ·obtain ⟨x,hx,he⟩:=fst_zero h1 k (List.getElem?_eq_some_iff.1 hm).1
        rw [hm] at hx
        cases hx
        exact he.symm
       ·obtain ⟨x,hx,he⟩:=fst_zero h2 k (List.getElem?_eq_some_iff.1 hm).1
        rw [hm] at hx
        cases hx
        exact he
       ·obtain ⟨r,b,hf,he⟩:=h3
        obtain ⟨rfl,rfl⟩:=fi_cix hf
        intro e
        have hl : 0 < c.ms.length:=List.length_pos_iff.2 hne
        rw [if_pos ⟨by simpa using e,hl⟩] at he
        cases he
theorem cl_ranges {c : Cl} (h : ClIs c 0) (hn : ∀ x ∈ c.pool,L3.I6 x.n) (ha : Ac6 c) : ClU c:=by
 obtain ⟨h1,h2,h3,h4,h5,h6,h7,h8,h9,h10,h11⟩:=cl_parts h
 have k4:=acc_in (k:=33) (by decide) ha.1 h4
 have k5:=cla_in h5
 have k6:=cla_in h6
 have kc:=cix_le c.pool
 refine ⟨h1,⟨by omega,by omega⟩,⟨by omega,by omega⟩,⟨by omega,by omega⟩,h2,hn,by omega,by omega,fun m hm=>?_,fun m hm=>?_,by omega,fun hne=>Nat.one_le_iff_ne_zero.2 (h11 hne)⟩
 ·obtain ⟨k,hk⟩:=List.mem_iff_getElem?.1 hm
  exact fd_in (h9 k m hk) (ha.2.1 m hm) h3
 ·obtain ⟨k,hk⟩:=List.mem_iff_getElem?.1 hm
  exact me_in (h10 k m hk) (ha.2.2 m hm) h3
theorem cl_sizes {c : Cl} (h : ClIs c 0) : c.fs.length ≤ 256 ∧ c.ms.length ≤ 256 ∧ L3.CkIs c.pool 0 ∧ ∀ m ∈ c.ms,0 < m.code.length ∧ m.code.length ≤ 4096 ∧ m.hs.length ≤ 64:=by
 obtain ⟨-,h2,-,-,-,-,h7,h8,-,h10,-⟩:=cl_parts h
 refine ⟨h7,h8,h2,fun m hm=>?_⟩
 obtain ⟨k,hk⟩:=List.mem_iff_getElem?.1 hm
 exact me_sizes (h10 k m hk)
theorem mem_len {α : Type} {f : α → List Int} {b : Nat} : ∀ {l : List α},(∀ x ∈ l,(f x).length ≤ b) → (l.flatMap f).length ≤ l.length * b
 | [],_=>by simp
 | x :: l,h=>by
  rw [List.flatMap_cons,List.length_append,List.length_cons,Nat.succ_mul]
  have h1:=h x (by simp)
  have h2:=mem_len (l:=l) (fun y hy=>h y (List.mem_cons_of_mem _ hy))
  omega
end Cf
end Go.Proofs.YtnojgiflgmnjlaaGreatDoor
namespace Go.Proofs.YtnojgiflgmnjlaaGreatDoor
open Go.RowKit
theorem hne_grow {w w' : World} {v v' : Value} {pb : Nat} (hg : Kit.Grows w w' v v') (hp : pb < w.heap.size) (hne : ∀ k,v.ownBlock = some k → k ≠ pb) : ∀ k,v'.ownBlock = some k → k ≠ pb:=by
 intro k hk
 rcases hg.blk with e|⟨j,hj,e⟩
 ·exact hne k (by rw [← e];exact hk)
 ·rw [e] at hk
  have:=Option.some.inj hk
  omega
structure Cel (w : World) (v : Value) (pb : Nat) (code : Nat) : Prop where
 lt : pb < w.heap.size
 at0 : w.cell? ⟨pb,0,none⟩ = some (.int .i64 (code : Nat))
 ne : ∀ k,v.ownBlock = some k → k ≠ pb
theorem Cel.grow {w w' : World} {v v' : Value} {pb code : Nat} (h : Cel w v pb code) (hg : Kit.Grows w w' v v') : Cel w' v' pb code:=⟨Nat.lt_of_lt_of_le h.lt hg.size,(hg.cell h.lt h.ne 0).trans h.at0,hne_grow hg h.lt h.ne⟩
theorem Cel.alloc {w : World} {v : Value} {pb code : Nat} (h : Cel w v pb code) (o : Obj) : Cel (w.alloc o) v pb code :=
 ⟨by rw [World.size_alloc];exact Nat.lt_succ_of_lt h.lt,(((Below.refl w.heap.size w).alloc (Nat.le_refl _) o).cell (p:=⟨pb,0,none⟩) h.lt).trans h.at0,h.ne⟩
set_option maxHeartbeats 1000000 in
theorem wcl_any (w0 : World) (v : Value) (l : List Int) (m : Cf.Mb) (cv hv : Value) (code pb : Nat) (w : World) (h : Wr w0 w v l) (hB : L3.Bs w0.heap.size w0 cv m.code) (hH : Kit.IsS 4 w0 hv m.hs.length (m.hs.flatMap hL)) (hc : 0 < m.code.length)
  (hl : l.length + 26 + m.code.length + 8 * m.hs.length ≤ 1099511627776) (hp : Cel w v pb code) :
  Calls Tryz.prog 95 #[v,mbV m cv hv,.pointer (some ⟨pb,0,none⟩)] w (WP w0 w v (l ++ Cf.meB code m)):=by
 have HM:=hid (fun W (k : Wr w0 W v l)=>wmethod_any w0 v l m cv hv code W k hB hH hc hl)
 have HW:=hid h
 obtain ⟨xa,xc,rfl⟩:=hB.len
 obtain ⟨ya,yc,rfl⟩:=hH.len
 obtain ⟨va,vc,rfl⟩:=h.form
 have hpb:=hp.lt
 have hp0:=hp.at0
 obtain ⟨ac,nm,ds,st,lc,co,hs9⟩:=m
 unfold mbV at HM ⊢
 dsimp only at HM ⊢
 clear h hB hH hc hl hp
 go_enter Tryz.func95,Tryz.ntmps95
 go_wp2_with (go_at_call 96;refine (HM.out _ (HW.out.alloc _)).mono ?_;rintro e w1 ⟨v1,rfl,h1,g1⟩;have H1:=hid h1;have G1:=hid g1;obtain ⟨a1,k1,c1,rfl⟩:=own_form3 h1.1;clear h1 g1)
 go_ret
 exact WP.al ⟨_,rfl,H1.out,G1.out⟩
def wcFn (pb : Nat) : Value:=.func (.func 95) #[] #[.pointer (some ⟨pb,0,none⟩)]
theorem mes_len {code : Nat} {ms : List Cf.Mb} (hg : ∀ m ∈ ms,0 < m.code.length ∧ m.code.length ≤ 4096 ∧ m.hs.length ≤ 64) : (ms.flatMap (Cf.meB code)).length ≤ ms.length * 4634:=by
 refine Cf.mem_len fun m hm=>?_
 obtain ⟨-,h2,h3⟩:=hg m hm
 have:=Cf.attr_len m
 unfold Cf.meB
 simp only [List.length_append,Cf.w2_len,Cf.w4_len]
 omega
set_option maxHeartbeats 1000000 in
theorem wms_any (w0 : World) (v : Value) (l : List Int) (ms : List Cf.Mb) (mv : Value) (code pb : Nat) (w : World) (h : Wr w0 w v l) (hM : MsR w0 mv ms) (hg : ∀ m ∈ ms,0 < m.code.length ∧ m.code.length ≤ 4096 ∧ m.hs.length ≤ 64) (hn : ms.length ≤ 256)
  (hl : l.length ≤ 1073741824) (hp : Cel w v pb code) :
  Calls Tryz.prog 91 #[v,mv,wcFn pb] w (WP w0 w v (l ++ Cf.w2 ms.length ++ ms.flatMap (Cf.meB code))):=by
 have HW:=hid h
 have HS:=hid hM
 have HL:=hid hl
 have HP:=hid hp
 have HGd:=hid hg
 have HH:=hid (fun (v : Value) (l : List Int) (m : Cf.Mb) (cv hv : Value) (w : World) h hB hH hc hl hp=>wcl_any w0 v l m cv hv code pb w h hB hH hc hl hp)
 obtain ⟨a0,cp0,rfl⟩:=h.form
 obtain ⟨ha,hc,rfl⟩:=hM.len
 unfold wcFn
 unfold mbV at HH
 clear h hM hl hp hg
 go_enter Tryz.func91,Tryz.ntmps91
 go_wp2_with (go_at_call 90;refine (wu2_k w0 _ _ [(ms.length : Int)] _ _ 1 1 _ _ HW.out rfl (by have:=HL.out;omega) rfl rfl).mono ?_;rintro e w1 ⟨v1,rfl,h1,g1⟩;rw [w2_one] at h1;have H1:=hid h1;have G1:=hid g1;obtain ⟨a1,k1,cp1,rfl⟩:=own_form3 h1.1;clear h1 g1)
 go_loopw [0,16] (fun u i wr=>∃ k : Nat,k ≤ ms.length ∧ i = .int .i64 k ∧ Hid (Wr w0 wr u (l ++ Cf.w2 ms.length ++ (ms.take k).flatMap (Cf.meB code))) ∧ Hid (Kit.Grows w wr (.slice a0 l.length cp0) u)) (fun _ i _=>ms.length - (intOf i).toNat)
 case atStart=>exact ⟨0,by omega,rfl,hid (by simpa using H1.out),G1⟩
 case round =>
  obtain ⟨k,hk,rfl,HR,HG⟩:=hrel
  obtain ⟨a2,k2,cp2,rfl⟩:=own_form3 HR.out.1
  by_cases hlt : k < ms.length
  ·obtain ⟨⟨ac,nm,ds,st,lc,co,hs9⟩,hx⟩ : ∃ x,ms[k]? = some x:=⟨ms[k],List.getElem?_eq_getElem hlt⟩
   obtain ⟨b,o,cap',cv,hw,hv2,hbb,hB,hH,hcl,c0,c1,c2,c3,c4,c5,c6⟩:=(HS.out.below HR.out.2 (Nat.le_refl _)).at hx
   obtain ⟨b',o',cap'',cv',hw',hv3,hbb',hB0,hH0,-,-,-,-,-,-,d5,d6⟩:=HS.out.at hx
   obtain ⟨rfl,-,rfl⟩:=Value.slice.inj hv2
   have hv4:=Value.slice.inj hv3
   have hbo : b = b' ∧ o = o':=by simpa using hv4.1
   obtain ⟨rfl,rfl⟩:=hbo
   have e5 : cv = cv':=by
    have:=(HR.out.2.cell (p:=⟨b,o + k * 7 + 5,none⟩) (by simpa using hbb')).symm.trans c5
    rw [d5] at this
    exact (Option.some.inj this).symm
   have e6 : hw = hw':=by
    have:=(HR.out.2.cell (p:=⟨b,o + k * 7 + 6,none⟩) (by simpa using hbb')).symm.trans c6
    rw [d6] at this
    exact (Option.some.inj this).symm
   subst e5 e6
   have HX:=hid hx
   have hki : (k : Int) < (ms.length : Int):=by omega
   have hgd:=HGd.out _ (List.mem_of_getElem? hx)
   have hft:=mes_len (code:=code) (ms:=ms.take k) (fun m hm=>HGd.out m (List.mem_of_mem_take hm))
   have HLn:=hid (show (l ++ Cf.w2 ms.length ++ (ms.take k).flatMap (Cf.meB code)).length + 26 + co.length + 8 * hs9.length ≤ 1099511627776 by
    rw [List.length_append,List.length_append,Cf.w2_len];rw [List.length_take] at hft;have:=HL.out;dsimp only at hgd;omega)
   have HGk:=hid hgd
   dsimp only at c0 c1 c2 c3 c4 c5 c6 hB0 hH0
   have HB0:=hid hB0
   have HH0:=hid hH0
   obtain ⟨xa,xc,rfl⟩:=hB0.len
   obtain ⟨ya,yc,rfl⟩:=hH0.len
   clear hx hv2 hB hH hcl hv3 hv4 d5 d6 hgd hft hB0 hH0
   go_wp2_with (go_at_call 95;refine (HH.out _ _ ⟨ac,nm,ds,st,lc,co,hs9⟩ _ _ _ (HR.out.alloc _) HB0.out HH0.out HGk.out.1 HLn.out ((HP.out.grow HG.out).alloc _)).mono ?_;rintro e w2 ⟨v2,rfl,h2,g2⟩;have H2:=hid h2;have G2:=hid (grows_al (w:=wr) g2);clear h2 g2)
   go_roundw
   case rel=>exact ⟨k + 1,by omega,by go_num,hid (by rw [take_flat HX.out,← List.append_assoc];exact H2.out),hid (HG.out.trans G2.out)⟩
   case measure=>simp [intOf];omega
  ·obtain rfl : k = ms.length:=by omega
   have H9:=HR.out
   rw [List.take_length] at H9
   have H9:=hid H9
   go_wp2
   go_ret
   exact ⟨_,rfl,H9.out,HG.out⟩
end Go.Proofs.YtnojgiflgmnjlaaGreatDoor
namespace Go.Proofs.YtnojgiflgmnjlaaGreatDoor
open Go.RowKit
theorem putB_max {l : List L3.Cp.C} (h : L3.CkIs l 0) : (L3.putB l).length ≤ 2000000:=by
 have h1:=L3.ck_size h
 have h2:=L3.encT_len h1.2 (L3.told l l.length)
 have h3:=L3.told_len l l.length
 unfold L3.putB
 rw [List.length_append,L3.bytesN_len]
 omega
theorem putB_pos (l : List L3.Cp.C) : 0 < (L3.putB l).length:=by
 unfold L3.putB
 rw [List.length_append,L3.bytesN_len]
 omega
theorem cl_bytes (c : Cf.Cl) : [] ++ Cf.w4 3405691582 ++ [c.mi,c.ma].flatMap Cf.w2 ++ L3.putB c.pool ++ [c.ac,c.th,c.su,0].flatMap Cf.w2 ++ Cf.w2 c.fs.length ++ c.fs.flatMap Cf.fdB ++ Cf.w2 c.ms.length ++ c.ms.flatMap (Cf.meB (Cf.cix c.pool)) ++ [0].flatMap Cf.w2 = Cf.clB c:=by
 unfold Cf.clB
 simp [List.append_assoc]
theorem st6_new {W5 w9 : World} {v : Value} {l : List Int} {base cx : Nat} (B9 : Below W5.heap.size W5 w9) (ho : L3.OwnI W5 base v l) : Below W5.heap.size W5 (w9.alloc (.cells #[.int .i64 (cx : Nat)] 3)) ∧ Cel (w9.alloc (.cells #[.int .i64 (cx : Nat)] 3)) v w9.heap.size cx:=by
 refine ⟨B9.alloc B9.size _,⟨by rw [World.size_alloc];omega,?_,fun k hk e=>?_⟩⟩
 ·rw [(L3.BX.new w9 _ _).cell];rfl
 ·have:=Kit.own_lt ho k hk
  have:=B9.size
  omega
theorem st6_set {W5 w9 : World} {v : Value} {l : List Int} {base cx pb : Nat} {T : TypeId} (B9 : Below W5.heap.size W5 w9) (bP : L3.BX w9 pb #[.int .i64 0] T) (hp : W5.heap.size ≤ pb) (ho : L3.OwnI W5 base v l) : Below W5.heap.size W5 (w9.setCell ⟨pb,0,none⟩ (.int .i64 (cx : Nat))) ∧ Cel (w9.setCell ⟨pb,0,none⟩ (.int .i64 (cx : Nat))) v pb cx:=by
 refine ⟨B9.setCell (p:=⟨pb,0,none⟩) hp _,⟨by rw [World.size_setCell];exact bP.sz,?_,fun k hk e=>?_⟩⟩
 ·rw [(bP.set 0 _).cell];rfl
 ·have:=Kit.own_lt ho k hk
  omega
set_option maxHeartbeats 4000000 in
theorem write_any (c : Cf.Cl) (vs : Array Value) (pv : Value) (pbase : Nat) (w : World) (h : ClR w vs c) (hk : L3.CkIs c.pool 0) (hf : c.fs.length ≤ 256) (hm : c.ms.length ≤ 256) (hg : ∀ m ∈ c.ms,0 < m.code.length ∧ m.code.length ≤ 4096 ∧ m.hs.length ≤ 64)
  (hp : L3.OwnI w pbase pv (L3.putB c.pool)) :
  Calls Tryz.prog 45 #[.agg vs,pv] w fun e w'=>∃ v',e = .returned v' ∧ L3.OwnI w' w.heap.size v' (Cf.clB c) ∧ Below w.heap.size w w':=by
 obtain ⟨i0,hi,hz0,hz1,hz2⟩:=info_parts infoB
 obtain ⟨pg,pcap,rfl,hpg,hpc⟩:=own_some hp (putB_pos _)
 obtain ⟨cv,fv,mv,rfl,hP,hF,hM⟩:=h
 obtain ⟨pa,pc,rfl⟩:=hP.len
 obtain ⟨fa,fc,rfl⟩:=hF.len
 obtain ⟨ma2,mc,rfl⟩:=hM.len
 have HPC:=hid hpc
 have HCb:=hid (cl_bytes c)
 have HPm:=hid (putB_max hk)
 have HPl:=hid (show c.pool.length * 48 ≤ 140737488355328 by have:=(L3.ck_size hk).1;omega)
 have HCl:=hid (And.intro hP (And.intro hF hM))
 have HGd:=hid hg
 obtain ⟨mi,ma,P,ac,th,su,fs,ms⟩:=c
 dsimp only at HPC HCb HPm HPl HCl HGd hf hm ⊢
 obtain ⟨pn,hpn⟩ : ∃ n,n = (L3.putB P).length:=⟨_,rfl⟩
 have HPn:=hid hpn
 rw [← hpn]
 clear hk hg hp hpc hP hF hM hpn
 go_enter Tryz.func45,Tryz.ntmps45
 go_wp2_with fail
 have bX:=L3.BX.new w #[.int .i64 mi,.int .i64 ma,.slice pa P.length pc,.int .i64 ac,.int .i64 th,.int .i64 su,.slice fa fs.length fc,.slice ma2 ms.length mc] 26
 have hb1 : Below w.heap.size w (w.alloc (.cells #[.int .i64 mi,.int .i64 ma,.slice pa P.length pc,.int .i64 ac,.int .i64 th,.int .i64 su,.slice fa fs.length fc,.slice ma2 ms.length mc] 26)):=(Below.refl _ _).alloc (Nat.le_refl _) _
 obtain ⟨W1,hW1⟩ : ∃ W1,W1 = w.alloc (.cells #[.int .i64 mi,.int .i64 ma,.slice pa P.length pc,.int .i64 ac,.int .i64 th,.int .i64 su,.slice fa fs.length fc,.slice ma2 ms.length mc] 26):=⟨_,rfl⟩
 rw [← hW1] at bX hb1 ⊢
 have BX:=hid bX
 have HB1:=hid hb1
 have HC1:=hid (show Kit.IsS 5 W1 (.slice pa P.length pc) P.length (P.flatMap L3.cL) ∧ MsR W1 (.slice fa fs.length fc) fs ∧ MsR W1 (.slice ma2 ms.length mc) ms from ⟨HCl.out.1.below hb1 (Nat.le_refl _),HCl.out.2.1.below hb1 (Nat.le_refl _),HCl.out.2.2.below hb1 (Nat.le_refl _)⟩)
 clear hW1 bX hb1
 go_wp2_with (first|(go_at_call 89;refine (wpo (wu4_wr W1 _ [] _ _ (Wr.nil W1 W1 (Below.refl _ _)) (by decide))).mono ?_;rintro e Wa ⟨v1,L1,rfl,h1,HL1,g1⟩;have HE1:=hid (show L1.length = 4 from by (rw [HL1.out];rfl));obtain ⟨a1,k1,c1,rfl⟩:=own_form3 h1.1;have HB9:=h1.2;have bX:=BX.out.below HB9 BX.out.sz;obtain ⟨q0,q1,q2,q3,q4,q5,q6,q7⟩:=bX.cells8;clear bX HB9;have HA1:=hid h1;clear h1 g1)|(go_at_call 90;have _g:=HA3;(fail_if_success (have _g:=HA4));refine (wpo (wu2_k W1 _ _ [ac,th,su,0] _ _ 4 4 _ _ HA3.out rfl (by (have:=HE3.out;have:=HPm.out;omega)) rfl rfl)).mono ?_;rintro e W4 ⟨v4,L4,rfl,h4,HL4,g4⟩;have HE4:=hid (show L4.length = 16 + (L3.putB P).length from by (have h9:=congrArg List.length HL4.out;rw [List.length_append,HE3.out] at h9;have h8 : ([ac,th,su,0].flatMap Cf.w2).length = 8:=rfl;omega));obtain ⟨a4,k4,c4,rfl⟩:=own_form3 h4.1;have HB9:=h4.2;have bX:=BX.out.below HB9 BX.out.sz;obtain ⟨q0,q1,q2,q3,q4,q5,q6,q7⟩:=bX.cells8;clear bX HB9;have HA4:=hid h4;clear h4 g4)|(go_at_call 90;(fail_if_success (have _g:=HA2));refine (wpo (wu2_k W1 _ _ [mi,ma] _ _ 2 2 _ _ HA1.out rfl (by (have:=HE1.out;omega)) rfl rfl)).mono ?_;rintro e W2 ⟨v2,L2,rfl,h2,HL2,g2⟩;have HE2:=hid (show L2.length = 8 from by (have h9:=congrArg List.length HL2.out;rw [List.length_append,HE1.out] at h9;have h8 : ([mi,ma].flatMap Cf.w2).length = 4:=rfl;omega));obtain ⟨a2,k2,c2,rfl⟩:=own_form3 h2.1;have HB9:=h2.2;have bX:=BX.out.below HB9 BX.out.sz;obtain ⟨q0,q1,q2,q3,q4,q5,q6,q7⟩:=bX.cells8;clear bX HB9;have HA2:=hid h2;clear h2 g2)|(at_builtin;(fail_if_success (have _g:=HA3));refine wpList_append_own_at _ rfl (.tmp 16) (.tmp 17) 22 rfl W1.heap.size 5 i0 _ 1 1 Tryz.underlying22 hi hz0 hz1 hz2 rfl (by decide) _ _ _ rfl HA2.out.1 ⟨pg,0,none⟩ pn pcap ((L3.putB P).map (Value.int .u8)) rfl (by rw [List.length_map,HPn.out,Nat.mul_one]) (fun j u hj=>by (have q9:=HPC.out j u hj;rw [add_at] at q9 ⊢;exact ((belows HB1.out HA2.out.2 HB1.out.size).cell (p:=⟨pg,0 + j,none⟩) (by simpa using hpg)).trans q9)) (ones_i _) (by (have:=HPm.out;have:=HPn.out;have:=HE2.out;unfold maxLen;omega)) (by (have:=HPm.out;have:=HPn.out;have:=HE2.out;omega)) HA2.out.2.size ?_;intro v3 W3 ho3 hg3 _ hk3;obtain ⟨Lc,HL3,h3⟩:=Wr.opq (HA2.out.grow (own_app rfl HPn.out ho3) (Kit.grows_append (Below.refl _ _) hg3 hk3));have HE3:=hid (show Lc.length = 8 + (L3.putB P).length from by (rw [HL3.out,List.length_append,HE2.out]));obtain ⟨a3,k3,c3,rfl⟩:=own_form3 h3.1;have HB9:=h3.2;have bX:=BX.out.below HB9 BX.out.sz;obtain ⟨q0,q1,q2,q3,q4,q5,q6,q7⟩:=bX.cells8;clear bX HB9;have HA3:=hid h3;clear h3 ho3 hg3 hk3)|(go_at_call 91;(fail_if_success (have _g:=HA5));refine (wpo (wfs_any W1 _ _ fs _ _ HA4.out HC1.out.2.1 (by (have:=HPm.out;have:=HE4.out;omega)))).mono ?_;rintro e W5 ⟨v5,L5,rfl,h5,HL5,g5⟩;have HE5:=hid (show L5.length = 18 + (L3.putB P).length + 8 * fs.length from by (rw [HL5.out,List.length_append,List.length_append,HE4.out,Cf.w2_len,fds_len];omega));obtain ⟨a5,k5,c5,rfl⟩:=own_form3 h5.1;have HB9:=h5.2;have bX:=BX.out.below HB9 BX.out.sz;obtain ⟨q0,q1,q2,q3,q4,q5,q6,q7⟩:=bX.cells8;clear bX HB9;have HA5:=hid h5;clear h5 g5))
 have hz5:=HA5.out.2.size
 have hzb:=BX.out.sz
 have hzb5 : w.heap.size < W5.heap.size:=by omega
 have HF:=hid (fun W (k : Below W5.heap.size W5 W)=>findCode_any P _ W (HC1.out.1.below (belows HA5.out.2 k HA5.out.2.size) (Nat.le_refl _)) HPl.out)
 have HUt:=hid (fun W=>utf8_any Cf.codeS W)
 have cfU:=fun (u : Value) (w : World)=>(show (callFunc 94 #[u]).run Tryz.prog w = .ok (.enter 94 #[u]) w by kernel_rfl)
 have cfF:=fun (u v : Value) (w : World)=>(show (callFunc 93 #[u,v]).run Tryz.prog w = .ok (.enter 93 #[u,v]) w by kernel_rfl)
 obtain ⟨cx,hcx⟩ : ∃ n,n = Cf.cix P:=⟨_,rfl⟩
 have HCx:=hid hcx
 rw [← hcx] at HF
 clear hcx
 go_region_law (first
  | (have _g:=hbU;refine Kit.step_call2 rfl 93 (.tmp 34) (.tmp 35) 23 56 rfl _ _ rfl rfl (cfF _ _ _) _ (HF.out _ ?_) ?_;(first|exact B8|exact BLw);rintro e w9 ⟨rfl,hbF⟩;refine ⟨_,rfl,?_⟩;have B9 : Below W5.heap.size W5 w9:=(by first|exact belows B8 hbF B8.size|exact belows B8 (below_undrew hbF) B8.size|exact belows (B8.alloc hz8 _) hbF (by simp only [World.size_alloc];omega)|exact belows (B8.alloc hz8 _) (below_undrew hbF) (by simp only [World.size_alloc];omega));(try (first|(have bP:=(BXi.below hbF BXi.sz);have pc0:=bP.cell 0;have pf0:=bP.frozen 0;simp at pc0)|(have bP:=(BXi.below (below_undrew hbF) BXi.sz);have pc0:=bP.cell 0;have pf0:=bP.frozen 0;simp at pc0)|(have bP:=(L3.BX.new w8 #[.int .i64 0] 3).below hbF (by simp);have pc0:=bP.cell 0;have pf0:=bP.frozen 0;simp at pc0)|(have bP:=(L3.BX.new w8 #[.int .i64 0] 3).below (below_undrew hbF) (by simp);have pc0:=bP.cell 0;have pf0:=bP.frozen 0;simp at pc0))))
  | (refine Kit.step_call1 rfl 94 (.const (.string ⟨#[67,111,100,101]⟩)) 9 rfl _ rfl (cfU _ _) _ (HUt.out _) ?_;rintro e w8 ⟨rfl,hbU⟩;refine ⟨_,rfl,?_⟩;have B8 : Below W5.heap.size W5 w8:=(by first|exact hbU|exact below_undrew hbU|exact belows ((Below.refl _ _).alloc (Nat.le_refl _) _) hbU (by simp only [World.size_alloc];omega)|exact belows ((Below.refl _ _).alloc (Nat.le_refl _) _) (below_undrew hbU) (by simp only [World.size_alloc];omega));have hz8:=B8.size;have hzb8 : w.heap.size < w8.heap.size:=(by (have:=HA5.out.2.size;have:=BX.out.sz;omega));have q2:=(B8.cell (p:=⟨w.heap.size,2,none⟩) (by (have:=HA5.out.2.size;simp;omega))).trans q2;(try (first|(have BXi:=(L3.BX.new W5 #[.int .i64 0] 3).below hbU (by simp))|(have BXi:=(L3.BX.new W5 #[.int .i64 0] 3).below (below_undrew hbU) (by simp))))))
 all_goals
  first
   | (have hs6:=st6_set (cx:=cx) (pb:=w8.heap.size) B9 bP (by omega) HA5.out.1;obtain ⟨W6,hW6⟩ : ∃ W,W = w9.setCell ⟨w8.heap.size,0,none⟩ (.int .i64 (cx : Nat)):=⟨_,rfl⟩;rw [← hW6] at hs6 ⊢;obtain ⟨B6,C6⟩:=hs6;obtain ⟨pb,hpb⟩ : ∃ n,n = w8.heap.size:=⟨_,rfl⟩;rw [← hpb] at C6 ⊢;clear hW6 hpb)
   | (have hs6:=st6_set (cx:=cx) (pb:=W5.heap.size) B9 bP (Nat.le_refl _) HA5.out.1;obtain ⟨W6,hW6⟩ : ∃ W,W = w9.setCell ⟨W5.heap.size,0,none⟩ (.int .i64 (cx : Nat)):=⟨_,rfl⟩;rw [← hW6] at hs6 ⊢;obtain ⟨B6,C6⟩:=hs6;obtain ⟨pb,hpb⟩ : ∃ n,n = W5.heap.size:=⟨_,rfl⟩;rw [← hpb] at C6 ⊢;clear hW6 hpb)
   | (have hs6:=st6_new (cx:=cx) B9 HA5.out.1;obtain ⟨W6,hW6⟩ : ∃ W,W = w9.alloc (.cells #[.int .i64 (cx : Nat)] 3):=⟨_,rfl⟩;rw [← hW6] at hs6 ⊢;obtain ⟨B6,C6⟩:=hs6;obtain ⟨pb,hpb⟩ : ∃ n,n = w9.heap.size:=⟨_,rfl⟩;rw [← hpb] at C6 ⊢;clear hW6 hpb)
  have CC:=hid C6
  have HA6:=hid (HA5.out.below B6)
  have BX6:=BX.out.below HA6.out.2 BX.out.sz
  have q7:=BX6.cell 7
  simp at q7
  clear BX6 C6 B6 B9 HF HUt cfU cfF hz5 hzb hzb5
  (go_wp2_with (first|(go_at_call 91;(fail_if_success (have _g:=HA7));refine (wpo (wms_any W1 _ _ ms _ cx pb _ HA6.out HC1.out.2.2 HGd.out hm (by (have:=HE5.out;have:=HPm.out;omega)) CC.out)).mono ?_;rintro e W7 ⟨v7,L7,rfl,h7,HL7,g7⟩;have HE7:=hid (show L7.length ≤ 5000000 from by (have h9:=congrArg List.length HL7.out;rw [List.length_append,List.length_append,HE5.out,Cf.w2_len] at h9;have h8:=mes_len (code:=cx) HGd.out;have:=HPm.out;omega));obtain ⟨a7,k7,c7,rfl⟩:=own_form3 h7.1;have HA7:=hid h7;clear h7 g7)|(go_at_call 90;have _g:=HA7;(fail_if_success (have _g:=HA8));refine (wpo (wu2_k W1 _ _ [(0 : Int)] _ _ 1 1 _ _ HA7.out rfl (by (have:=HE7.out;omega)) rfl rfl)).mono ?_;rintro e W8 ⟨v8,L8,rfl,h8,HL8,g8⟩;obtain ⟨a8,k8,c8,rfl⟩:=own_form3 h8.1;have HA8:=hid h8;clear h8 g8));go_ret;exact ⟨_,rfl,by (have e9 : L8 = Cf.clB ⟨mi,ma,P,ac,th,su,fs,ms⟩:=(by rw [HL8.out,HL7.out,HCx.out,HL5.out,HL4.out,HL3.out,HL2.out,HL1.out];exact HCb.out);rw [← e9];exact L3.own_mono HA8.out.1 HB1.out.size),belows HB1.out HA8.out.2 HB1.out.size⟩)
end Go.Proofs.YtnojgiflgmnjlaaGreatDoor
namespace Go.Proofs.YtnojgiflgmnjlaaGreatDoor
open Go.RowKit
def EnPost (c : Cf.Cl) (w : World) (e : Ending) (w' : World) : Prop :=
 ∃ er,Cf.ClIs c er ∧ (er ≠ 0 → e = .returned (.tuple #[.slice none 0 0,.int .i64 er])) ∧
  (er = 0 → (65536 < (Cf.clB c).length → e = .returned (.tuple #[.slice none 0 0,.int .i64 3])) ∧ ((Cf.clB c).length ≤ 65536 → ∃ v,e = .returned (.tuple #[v,.int .i64 0]) ∧ L3.OwnI w' w.heap.size v (Cf.clB c))) ∧ Below w.heap.size w w'
set_option maxHeartbeats 2000000 in
theorem encode_any (c : Cf.Cl) (vs : Array Value) (w : World) (hk : Ck w c) (h : ClR w vs c) : Calls Tryz.prog 15 #[.agg vs] w (EnPost c w):=by
 have HC:=hid (fun W (k : Below w.heap.size w W)=>check_any c vs W (hk.below k) (h.below k (Nat.le_refl _)))
 have HWr:=hid (fun pv pbase W (k : Below w.heap.size w W) hck hf hm hg hp=>write_any c vs pv pbase W (h.below k (Nat.le_refl _)) hck hf hm hg hp)
 obtain ⟨pv,fv,mv,rfl,hp,hf,hm⟩:=h
 have HP:=hid (fun W (k : Below w.heap.size w W)=>L3.put_any c.pool pv W (hk.t3.below k hk.t3.size) (hp.below k (Nat.le_refl _)) hk.ps)
 obtain ⟨pa,pc,rfl⟩:=hp.len
 obtain ⟨fa,fc,rfl⟩:=hf.len
 obtain ⟨ma2,mc,rfl⟩:=hm.len
 unfold EnPost
 unfold L3.PutPost at HP
 obtain ⟨B,hB⟩ : ∃ B,B = Cf.clB c:=⟨_,rfl⟩
 rw [← hB] at HWr ⊢
 clear hk hp hf hm hB
 by_cases hlen : 65536 < B.length
 ·have hd : decide (65536 < (B.length : Int)) = true:=by simp;omega
  have HLn:=hid hlen
  clear hlen
  go_enter Tryz.func15,Tryz.ntmps15
  go_wp2_with (first|(go_at_call 17;refine (HC.out _ BLw).mono ?_;rintro e w1 ⟨er,hR,rfl,hb1⟩;obtain ⟨bC,hzC,B1⟩:=belows1 hb1;have HR:=hid hR;obtain ⟨q0,q1,q2,q3,q4,q5,q6,q7⟩:=bC.cells8;have BC:=hid bC;clear hb1 bC;by_cases hz : er = 0;all_goals (first|(subst hz;clear hR)|(have hdd : (er != 0) = true:=(by simpa using hz);have HZ:=hid hz;clear hz hR)))|(go_at_call 44;refine (HP.out _ B1).mono ?_;rintro e w2 ⟨pk,hck,-,h2,hb2⟩;obtain rfl:=hck.det (Cf.cl_sizes HR.out).2.2.1;obtain ⟨v2,rfl,ho2⟩:=h2 rfl;obtain ⟨a2,k2,c2,rfl⟩:=own_form3 ho2;have HO2:=hid ho2;have B2:=belows B1 hb2 B1.size;have bC:=BC.out.below hb2 BC.out.sz;obtain ⟨q0,q1,q2,q3,q4,q5,q6,q7⟩:=bC.cells8;clear hck h2 ho2 hb2 bC)|(go_at_call 45;refine (HWr.out _ _ _ B2 (Cf.cl_sizes HR.out).2.2.1 (Cf.cl_sizes HR.out).1 (Cf.cl_sizes HR.out).2.1 (Cf.cl_sizes HR.out).2.2.2 HO2.out).mono ?_;rintro e w3 ⟨v3,rfl,ho3,hb3⟩;obtain ⟨a3,c3,rfl⟩:=L3.own_form ho3;have HO3:=hid ho3;have B3:=belows B2 hb3 B2.size;clear ho3 hb3))
  ·go_ret2
   exact ⟨0,HR.out,fun e=>absurd rfl e,fun _=>⟨fun _=>rfl,fun e=>absurd HLn.out (by omega)⟩,B3⟩
  ·go_ret2
   exact ⟨er,HR.out,fun _=>rfl,fun e=>absurd e HZ.out,B1⟩
 ·have hd : decide (65536 < (B.length : Int)) = false:=by simp;omega
  have HLn:=hid hlen
  clear hlen
  go_enter Tryz.func15,Tryz.ntmps15
  go_wp2_with (first|(go_at_call 17;refine (HC.out _ BLw).mono ?_;rintro e w1 ⟨er,hR,rfl,hb1⟩;obtain ⟨bC,hzC,B1⟩:=belows1 hb1;have HR:=hid hR;obtain ⟨q0,q1,q2,q3,q4,q5,q6,q7⟩:=bC.cells8;have BC:=hid bC;clear hb1 bC;by_cases hz : er = 0;all_goals (first|(subst hz;clear hR)|(have hdd : (er != 0) = true:=(by simpa using hz);have HZ:=hid hz;clear hz hR)))|(go_at_call 44;refine (HP.out _ B1).mono ?_;rintro e w2 ⟨pk,hck,-,h2,hb2⟩;obtain rfl:=hck.det (Cf.cl_sizes HR.out).2.2.1;obtain ⟨v2,rfl,ho2⟩:=h2 rfl;obtain ⟨a2,k2,c2,rfl⟩:=own_form3 ho2;have HO2:=hid ho2;have B2:=belows B1 hb2 B1.size;have bC:=BC.out.below hb2 BC.out.sz;obtain ⟨q0,q1,q2,q3,q4,q5,q6,q7⟩:=bC.cells8;clear hck h2 ho2 hb2 bC)|(go_at_call 45;refine (HWr.out _ _ _ B2 (Cf.cl_sizes HR.out).2.2.1 (Cf.cl_sizes HR.out).1 (Cf.cl_sizes HR.out).2.1 (Cf.cl_sizes HR.out).2.2.2 HO2.out).mono ?_;rintro e w3 ⟨v3,rfl,ho3,hb3⟩;obtain ⟨a3,c3,rfl⟩:=L3.own_form ho3;have HO3:=hid ho3;have B3:=belows B2 hb3 B2.size;clear ho3 hb3))
  ·go_ret2
   exact ⟨0,HR.out,fun e=>absurd rfl e,fun _=>⟨fun e=>absurd e HLn.out,fun _=>⟨_,rfl,L3.own_mono HO3.out B2.size⟩⟩,B3⟩
  ·go_ret2
   exact ⟨er,HR.out,fun _=>rfl,fun e=>absurd e HZ.out,B1⟩
end Go.Proofs.YtnojgiflgmnjlaaGreatDoor
namespace Go.Proofs.YtnojgiflgmnjlaaGreatDoor
open Go.RowKit
set_option maxHeartbeats 400000 in
theorem rsc_any (l : List L3.Cp.C) (v u : Value) (w : World) (hv : Kit.IsS 5 w v l.length (l.flatMap L3.cL)) (hu : Kit.IsS 5 w u l.length (l.flatMap L3.cL)) :
  Calls Tryz.prog 42 #[v,u] w fun e w'=>e = .returned (.bool true) ∧ Below w.heap.size w w':=by
 have HV:=hid hv
 have HU:=hid hu
 obtain ⟨a1,cap1,hv2⟩:=hv.len
 obtain ⟨a2,cap2,hu2⟩:=hu.len
 subst hv2 hu2
 have hlen:=hv.2.1
 clear hv hu
 go_enter Tryz.func42,Tryz.ntmps42
 go_wp2
 go_loopw [5] (fun i wr=>∃ k : Nat,k ≤ l.length ∧ i = .int .i64 k ∧ Below w.heap.size w wr) (fun i _=>l.length - (intOf i).toNat)
 case atStart=>exact ⟨0,by omega,rfl,BLw⟩
 case round =>
  obtain ⟨k,hk,rfl,hbl⟩:=hrel
  have hbz:=hbl.size
  by_cases hlt : k < l.length
  ·obtain ⟨x,hx⟩ : ∃ x,l[k]? = some x:=⟨l[k],List.getElem?_eq_getElem hlt⟩
   obtain ⟨b,o,cap',hv,hb,c0,c1,c2,c3,c4⟩:=L3.c_at (HV.out.below hbl (Nat.le_refl _)) hx
   obtain ⟨rfl,-,rfl⟩:=Value.slice.inj hv
   obtain ⟨b',o',cap',hv',hb',d0,d1,d2,d3,d4⟩:=L3.c_at (HU.out.below hbl (Nat.le_refl _)) hx
   obtain ⟨rfl,-,rfl⟩:=Value.slice.inj hv'
   have i1 : (k : Int) < (l.length : Int):=by omega
   clear hx hv hv'
   go_wp2
   go_quiet (fail)
   go_wp2
   go_roundw
   case rel=>exact ⟨k + 1,by omega,by go_num,BLw⟩
   case measure=>simp [intOf];omega
  ·obtain rfl : k = l.length:=by omega
   go_wp2
   go_ret
   exact ⟨rfl,BLw⟩
set_option maxHeartbeats 400000 in
theorem rsh_any (l : List Cf.Hn) (v u : Value) (w : World) (hv : Kit.IsS 4 w v l.length (l.flatMap hL)) (hu : Kit.IsS 4 w u l.length (l.flatMap hL)) :
  Calls Tryz.prog 84 #[v,u] w fun e w'=>e = .returned (.bool true) ∧ Below w.heap.size w w':=by
 have HV:=hid hv
 have HU:=hid hu
 obtain ⟨a1,cap1,hv2⟩:=hv.len
 obtain ⟨a2,cap2,hu2⟩:=hu.len
 subst hv2 hu2
 have hlen:=hv.2.1
 clear hv hu
 go_enter Tryz.func84,Tryz.ntmps84
 go_wp2
 go_loopw [5] (fun i wr=>∃ k : Nat,k ≤ l.length ∧ i = .int .i64 k ∧ Below w.heap.size w wr) (fun i _=>l.length - (intOf i).toNat)
 case atStart=>exact ⟨0,by omega,rfl,BLw⟩
 case round =>
  obtain ⟨k,hk,rfl,hbl⟩:=hrel
  have hbz:=hbl.size
  by_cases hlt : k < l.length
  ·obtain ⟨x,hx⟩ : ∃ x,l[k]? = some x:=⟨l[k],List.getElem?_eq_getElem hlt⟩
   obtain ⟨b,o,cap',hv,hb,c0,c1,c2,c3⟩:=h_at (HV.out.below hbl (Nat.le_refl _)) hx
   obtain ⟨rfl,-,rfl⟩:=Value.slice.inj hv
   obtain ⟨b',o',cap',hv',hb',d0,d1,d2,d3⟩:=h_at (HU.out.below hbl (Nat.le_refl _)) hx
   obtain ⟨rfl,-,rfl⟩:=Value.slice.inj hv'
   have i1 : (k : Int) < (l.length : Int):=by omega
   clear hx hv hv'
   go_wp2
   go_quiet (fail)
   go_wp2
   go_roundw
   case rel=>exact ⟨k + 1,by omega,by go_num,BLw⟩
   case measure=>simp [intOf];omega
  ·obtain rfl : k = l.length:=by omega
   go_wp2
   go_ret
   exact ⟨rfl,BLw⟩
set_option maxHeartbeats 1000000 in
theorem rsm_any (ms : List Cf.Mb) (v u : Value) (w : World) (hv : MsR w v ms) (hu : MsR w u ms) :
  Calls Tryz.prog 43 #[v,u] w fun e w'=>e = .returned (.bool true) ∧ Below w.heap.size w w':=by
 have HV:=hid hv
 have HU:=hid hu
 obtain ⟨a1,cap1,hv2⟩:=hv.len
 obtain ⟨a2,cap2,hu2⟩:=hu.len
 subst hv2 hu2
 have hlen:=hv.size
 clear hv hu
 go_enter Tryz.func43,Tryz.ntmps43
 go_wp2
 go_loopw [5] (fun i wr=>∃ k : Nat,k ≤ ms.length ∧ i = .int .i64 k ∧ Below w.heap.size w wr) (fun i _=>ms.length - (intOf i).toNat)
 case atStart=>exact ⟨0,by omega,rfl,BLw⟩
 case round =>
  obtain ⟨k,hk,rfl,hbl⟩:=hrel
  have hbz:=hbl.size
  by_cases hlt : k < ms.length
  ·obtain ⟨⟨ac,nm,ds,st,lc,co,hs9⟩,hx⟩ : ∃ x,ms[k]? = some x:=⟨ms[k],List.getElem?_eq_getElem hlt⟩
   obtain ⟨b,o,cap',cv,hw,hv2,hbb,hB,hH,hcl,c0,c1,c2,c3,c4,c5,c6⟩:=(HV.out.below hbl (Nat.le_refl _)).at hx
   obtain ⟨b2,o2,cap2',cv2,hw2,hu2,hbb2,hB2,hH2,-,d0,d1,d2,d3,d4,d5,d6⟩:=(HU.out.below hbl (Nat.le_refl _)).at hx
   obtain ⟨rfl,-,rfl⟩:=Value.slice.inj hv2
   obtain ⟨rfl,-,rfl⟩:=Value.slice.inj hu2
   have hki : (k : Int) < (ms.length : Int):=by omega
   dsimp only at c0 c1 c2 c3 c4 c5 c6 d0 d1 d2 d3 d4 d5 d6 hB hH hB2 hH2
   have HHs:=hid (fun W (k : Below wr.heap.size wr W)=>rsh_any hs9 _ _ W (hH.below k (Nat.le_refl _)) (hH2.below k (Nat.le_refl _)))
   obtain ⟨xa,xc,rfl⟩:=hB.len
   obtain ⟨ya,yc,rfl⟩:=hH.len
   obtain ⟨xa2,xc2,rfl⟩:=hB2.len
   obtain ⟨ya2,yc2,rfl⟩:=hH2.len
   have B7 : Below wr.heap.size wr ((wr.alloc (.cells #[.int .i64 ac,.int .i64 nm,.int .i64 ds,.int .i64 st,.int .i64 lc,.slice xa co.length xc,.slice ya hs9.length yc] 42)).alloc (.cells #[.int .i64 ac,.int .i64 nm,.int .i64 ds,.int .i64 st,.int .i64 lc,.slice xa2 co.length xc2,.slice ya2 hs9.length yc2] 42)):=BLw
   have hv7:=L3.bs_conv ((hB.below B7 (Nat.le_refl _)).mono B7.size)
   have hu7:=L3.bs_conv ((hB2.below B7 (Nat.le_refl _)).mono B7.size)
   clear hx hv2 hu2 hB hH hB2 hH2 hcl
   go_wp2_with (go_at_call 84;refine (HHs.out _ B7).mono ?_;rintro e W8 ⟨rfl,hb8⟩;have B8:=belows B7 hb8 B7.size)
   go_roundw
   case rel=>exact ⟨k + 1,by omega,by go_num,belows hbl B8 hbz⟩
   case measure=>simp [intOf];omega
  ·obtain rfl : k = ms.length:=by omega
   go_wp2
   go_ret
   exact ⟨rfl,BLw⟩
set_option maxHeartbeats 1000000 in
theorem rsame_any (c : Cf.Cl) (vs us : Array Value) (w : World) (hv : ClR w vs c) (hu : ClR w us c) :
  Calls Tryz.prog 14 #[.agg vs,.agg us] w fun e w'=>e = .returned (.bool true) ∧ Below w.heap.size w w':=by
 obtain ⟨pv,fv,mv,rfl,hp,hf,hm⟩:=hv
 obtain ⟨qv,gv,nv,rfl,kp,kf,km⟩:=hu
 have HP:=hid (fun W (k : Below w.heap.size w W)=>rsc_any c.pool pv qv W (hp.below k (Nat.le_refl _)) (kp.below k (Nat.le_refl _)))
 have HF:=hid (fun W (k : Below w.heap.size w W)=>rsm_any c.fs fv gv W (hf.below k (Nat.le_refl _)) (kf.below k (Nat.le_refl _)))
 have HM:=hid (fun W (k : Below w.heap.size w W)=>rsm_any c.ms mv nv W (hm.below k (Nat.le_refl _)) (km.below k (Nat.le_refl _)))
 obtain ⟨pa,pc,rfl⟩:=hp.len
 obtain ⟨fa,fc,rfl⟩:=hf.len
 obtain ⟨ma2,mc,rfl⟩:=hm.len
 obtain ⟨pa',pc',rfl⟩:=kp.len
 obtain ⟨fa',fc',rfl⟩:=kf.len
 obtain ⟨ma2',mc',rfl⟩:=km.len
 clear hp hf hm kp kf km
 go_enter Tryz.func14,Tryz.ntmps14
 go_wp2_with (first|(go_at_call 42;refine (HP.out _ BLw).mono ?_;rintro e w1 ⟨rfl,hb1⟩;obtain ⟨bC,bD,hz1,B1⟩:=boxes2 hb1;have q6:=bC.cell 6;have r6:=bD.cell 6;have q7:=bC.cell 7;have r7:=bD.cell 7;simp at q6 q7 r6 r7;have bC1:=bC;have bD1:=bD;clear hb1)|(go_at_call 43;have _g:=B2;refine (HM.out _ B2).mono ?_;rintro e w3 ⟨rfl,hb3⟩;have B3:=belows B2 hb3 B2.size)|(go_at_call 43;refine (HF.out _ B1).mono ?_;rintro e w2 ⟨rfl,hb2⟩;have B2:=belows B1 hb2 B1.size;have bC:=bC1.below hb2 bC1.sz;have bD:=bD1.below hb2 bD1.sz;have q7:=bC.cell 7;have r7:=bD.cell 7;simp at q7 r7))
 go_ret
 exact ⟨rfl,B3⟩
end Go.Proofs.YtnojgiflgmnjlaaGreatDoor
namespace Go.Proofs.YtnojgiflgmnjlaaGreatDoor
open Go.RowKit
theorem AdS.det {l : List L3.Cp.C} {er : Int} {c : L3.Cp.C} {m m' : List L3.Cp.C} {i i' : Nat} {e e' : Int} (h : AdS l er c m i e) (k : AdS l er c m' i' e') : m = m' ∧ i = i' ∧ e = e':=by
 rcases h with ⟨h1,rfl,rfl,rfl⟩|⟨rfl,h⟩ <;> rcases k with ⟨k1,rfl,rfl,rfl⟩|⟨k0,k⟩
 ·exact ⟨rfl,rfl,rfl⟩
 ·exact absurd k0 h1
 ·exact absurd rfl k1
 ·exact L3.AdIs.det h k
theorem NwIs.det {a b : ByteArray} {c c' : Cf.Cl} {er er' : Int} (h : NwIs a b c er) (k : NwIs a b c' er') : c = c' ∧ er = er':=by
 unfold NwIs at h k
 split at h
 ·rename_i h1;rw [if_pos h1] at k;exact ⟨h.1.trans k.1.symm,h.2.trans k.2.symm⟩
 ·rename_i h1
  rw [if_neg h1] at k
  split at h
  ·rename_i h2;rw [if_pos h2] at k;exact ⟨h.1.trans k.1.symm,h.2.trans k.2.symm⟩
  ·rename_i h2
   rw [if_neg h2] at k
   obtain ⟨m0,i0,e0,m1,i1,e1,m2,i2,e2,m3,i3,e3,m4,i4,e4,a0,a1,a2,a3,a4,h⟩:=h
   obtain ⟨m0',i0',e0',m1',i1',e1',m2',i2',e2',m3',i3',e3',m4',i4',e4',b0,b1,b2,b3,b4,k⟩:=k
   obtain ⟨rfl,rfl,rfl⟩:=a0.det b0
   obtain ⟨rfl,rfl,rfl⟩:=a1.det b1
   obtain ⟨rfl,rfl,rfl⟩:=a2.det b2
   obtain ⟨rfl,rfl,rfl⟩:=a3.det b3
   obtain ⟨rfl,rfl,rfl⟩:=a4.det b4
   split at h
   ·rename_i h3;rw [if_pos h3] at k;exact ⟨h.1.trans k.1.symm,h.2.trans k.2.symm⟩
   ·rename_i h3;rw [if_neg h3] at k;exact ⟨h.1.trans k.1.symm,h.2.trans k.2.symm⟩
theorem ad_new {l : List L3.Cp.C} {c : L3.Cp.C} (h1 : L3.CkIs l 0) (h2 : L3.ceOut c = 0) (h3 : (l.drop 1).all (fun x=>decide (x ≠ c)) = true) (h4 : (L3.appE (L3.hdP l) c).length ≤ 4096) : AdS l 0 c (L3.appE (L3.hdP l) c) (L3.hdP l).length 0:=by
 refine .inr ⟨rfl,.inr ⟨h1,.inr ⟨h2,.inr ⟨.inl ⟨rfl,rfl,fun j hj _ he=>?_⟩,.inr ⟨h4,rfl,rfl,rfl⟩⟩⟩⟩⟩
 rw [List.all_eq_true] at h3
 have:=h3 c (by
  rw [List.mem_iff_getElem?]
  exact ⟨j - 1,by rw [List.getElem?_drop,show 1 + (j - 1) = j by omega];exact he⟩)
 simp at this
namespace Cf
def aS : ByteArray:=⟨#[65]⟩
def oS : ByteArray:=⟨#[106,97,118,97,47,108,97,110,103,47,79,98,106,101,99,116]⟩
def fS : ByteArray:=⟨#[102]⟩
def dS : ByteArray:=⟨#[40,41,73]⟩
def p2 : List L3.Cp.C:=[L3.Cp.C0,codeC]
def p3 : List L3.Cp.C:=p2 ++ [⟨1,aS,0,0,0⟩]
def p4 : List L3.Cp.C:=p3 ++ [⟨7,⟨#[]⟩,0,2,0⟩]
def p5 : List L3.Cp.C:=p4 ++ [⟨1,oS,0,0,0⟩]
def p6 : List L3.Cp.C:=p5 ++ [⟨7,⟨#[]⟩,0,4,0⟩]
def p7 : List L3.Cp.C:=p6 ++ [⟨1,fS,0,0,0⟩]
def p8 : List L3.Cp.C:=p7 ++ [⟨1,dS,0,0,0⟩]
def kA : Cl:=⟨0,52,p6,33,3,5,[],[]⟩
def mF0 : Mb:=⟨8,0,0,1,0,[4,172],[]⟩
def mF : Mb:=⟨8,6,7,1,0,[4,172],[]⟩
def kF : Cl:=⟨0,52,p8,33,3,5,[],[mF]⟩
set_option maxRecDepth 100000
theorem ck0 : L3.CkIs [] 0:=L3.ck_all.2 ⟨by decide,by decide +kernel⟩
theorem ck2 : L3.CkIs p2 0:=L3.ck_all.2 ⟨by decide +kernel,by decide +kernel⟩
theorem ck3 : L3.CkIs p3 0:=L3.ck_all.2 ⟨by decide +kernel,by decide +kernel⟩
theorem ck4 : L3.CkIs p4 0:=L3.ck_all.2 ⟨by decide +kernel,by decide +kernel⟩
theorem ck5 : L3.CkIs p5 0:=L3.ck_all.2 ⟨by decide +kernel,by decide +kernel⟩
theorem ck6 : L3.CkIs p6 0:=L3.ck_all.2 ⟨by decide +kernel,by decide +kernel⟩
theorem ck7 : L3.CkIs p7 0:=L3.ck_all.2 ⟨by decide +kernel,by decide +kernel⟩
theorem ck8 : L3.CkIs p8 0:=L3.ck_all.2 ⟨by decide +kernel,by decide +kernel⟩
theorem ad2 : AdS [] 0 codeC p2 1 0:=ad_new ck0 (by decide +kernel) (by decide +kernel) (by decide +kernel)
theorem ad3 : AdS p2 0 ⟨1,aS,0,0,0⟩ p3 2 0:=ad_new ck2 (by decide +kernel) (by decide +kernel) (by decide +kernel)
theorem ad4 : AdS p3 0 ⟨7,⟨#[]⟩,0,(2 : Nat),0⟩ p4 3 0:=ad_new ck3 (by decide +kernel) (by decide +kernel) (by decide +kernel)
theorem ad5 : AdS p4 0 ⟨1,oS,0,0,0⟩ p5 4 0:=ad_new ck4 (by decide +kernel) (by decide +kernel) (by decide +kernel)
theorem ad6 : AdS p5 0 ⟨7,⟨#[]⟩,0,(4 : Nat),0⟩ p6 5 0:=ad_new ck5 (by decide +kernel) (by decide +kernel) (by decide +kernel)
theorem ad7 : AdS p6 0 ⟨1,fS,0,0,0⟩ p7 6 0:=ad_new ck6 (by decide +kernel) (by decide +kernel) (by decide +kernel)
theorem ad8 : AdS p7 0 ⟨1,dS,0,0,0⟩ p8 7 0:=ad_new ck7 (by decide +kernel) (by decide +kernel) (by decide +kernel)
theorem nw_A : NwIs aS oS kA 0:=by
 unfold NwIs
 rw [if_neg (by decide +kernel),if_neg (by decide +kernel)]
 exact ⟨p2,1,0,p3,2,0,p4,3,0,p5,4,0,p6,5,0,ad2,ad3,ad4,ad5,ad6,by rw [if_neg (by decide)];exact ⟨rfl,rfl⟩⟩
theorem dec_F : ∃ l,L1.Op1.DecOut [4,172] l 0 :=
 ⟨_,.ok (by decide) (by decide) (.snoc (.snoc .nil (by decide +kernel)) (by decide +kernel)) (by decide +kernel)⟩
theorem cl_F : ClIs kF 0:=by
 refine FstR.all fun k hk=>?_
 match k,hk with
 | 0,_ =>
  show HdIs kF 0
  unfold HdIs
  rw [if_neg (by decide +kernel)]
  refine ⟨0,ck8,?_⟩
  rw [if_neg (by decide),if_neg (by decide +kernel),if_neg (by decide +kernel),if_neg (by decide +kernel),if_neg (by decide +kernel)]
 | 1,_=>exact FstR.all fun k hk=>by cases hk
 | 2,_ =>
  refine FstR.all fun k hk=>?_
  obtain rfl : k = 0:=by have : k < 1:=hk;omega
  refine ⟨mF,rfl,?_⟩
  unfold meIs
  rw [if_neg (by decide +kernel),if_neg (by decide +kernel),if_neg (by decide +kernel),if_neg (by decide +kernel),if_neg (by decide +kernel)]
  obtain ⟨l,hl⟩:=dec_F
  refine ⟨l,0,hl,?_⟩
  rw [if_neg (by decide),if_neg (by decide +kernel)]
  exact FstR.all fun k hk=>by cases hk
 | 3,_=>exact ⟨_,_,cix_fi p8,by decide +kernel⟩
end Cf
end Go.Proofs.YtnojgiflgmnjlaaGreatDoor
namespace Go.Proofs.YtnojgiflgmnjlaaGreatDoor
open Go.RowKit
theorem code2 (W0 : World) (T : TypeId) : L3.Bs (W0.alloc (.cells #[.int .u8 4,.int .u8 172] T)).heap.size (W0.alloc (.cells #[.int .u8 4,.int .u8 172] T)) (.slice (some ⟨W0.heap.size,0,none⟩) 2 2) [4,172]:=by
 refine ⟨by decide,.inr ⟨W0.heap.size,0,2,rfl,by decide,by rw [World.size_alloc];omega,fun i c hi=>?_⟩⟩
 rw [(L3.BX.new W0 _ _).cell]
 match i,hi with
 | 0,hi=>simp at hi;subst hi;rfl
 | 1,hi=>simp at hi;subst hi;rfl
 | i + 2,hi=>simp at hi
def NaPost (w : World) (e : Ending) (w' : World) : Prop:=∃ pa pc fa fc ma mc,e = .returned (.tuple #[.agg #[.int .i64 0,.int .i64 52,.slice pa 6 pc,.int .i64 33,.int .i64 3,.int .i64 5,.slice fa 0 fc,.slice ma 0 mc],.int .i64 0]) ∧
 ClR w' #[.int .i64 0,.int .i64 52,.slice pa 6 pc,.int .i64 33,.int .i64 3,.int .i64 5,.slice fa 0 fc,.slice ma 0 mc] Cf.kA ∧ Below w.heap.size w w'
theorem newA (w : World) (t3 : L3.Tabs w) : Calls Tryz.prog 30 #[.string ⟨#[65]⟩,.string ⟨#[106,97,118,97,47,108,97,110,103,47,79,98,106,101,99,116]⟩] w (NaPost w):=by
 refine (new_any Cf.aS Cf.oS w t3).mono ?_
 rintro e w1 ⟨c,er,vs,hN,rfl,hR,-,hb⟩
 obtain ⟨rfl,rfl⟩:=NwIs.det hN Cf.nw_A
 have hR2:=hR
 obtain ⟨pv,fv,mv,rfl,hp,hf,hm⟩:=hR
 obtain ⟨pa,pc,rfl⟩:=hp.len
 obtain ⟨fa,fc,rfl⟩:=hf.len
 obtain ⟨ma,mc,rfl⟩:=hm.len
 exact ⟨pa,pc,fa,fc,ma,mc,rfl,hR2,hb⟩
def WfPost (w : World) (e : Ending) (w' : World) : Prop:=∃ pa pc fa fc ma mc,e = .returned (.tuple #[.agg #[.int .i64 0,.int .i64 52,.slice pa 8 pc,.int .i64 33,.int .i64 3,.int .i64 5,.slice fa 0 fc,.slice ma 1 mc],.int .i64 0]) ∧
 OCl w' w.heap.size #[.int .i64 0,.int .i64 52,.slice pa 8 pc,.int .i64 33,.int .i64 3,.int .i64 5,.slice fa 0 fc,.slice ma 1 mc] Cf.kF ∧ Below w.heap.size w w'
theorem szF : Cf.Sz Cf.kF:=⟨by show (8 : Nat) ≤ _;decide,by show (0 : Nat) ≤ _;decide,by show (1 : Nat) ≤ _;decide⟩
theorem szA : Cf.Szc Cf.kA:=⟨by decide +kernel,by decide,by decide,fun m hm=>by (cases hm),fun m hm=>by (cases hm)⟩
theorem pzA : PoolSz Cf.kA.pool:=⟨by decide +kernel,by decide +kernel⟩
theorem pzF : PoolSz Cf.kF.pool:=⟨by decide +kernel,by decide +kernel⟩
theorem withF (w : World) (t1 : L1.Tabs w) (t3 : L3.Tabs w) (vs : Array Value) (hR : ClR w vs Cf.kA) (g : Nat) (hB : L3.Bs w.heap.size w (.slice (some ⟨g,0,none⟩) 2 2) [4,172]) :
  Calls Tryz.prog 28 #[.agg vs,.string ⟨#[102]⟩,.string ⟨#[40,41,73]⟩,.agg #[.int .i64 8,.int .i64 0,.int .i64 0,.int .i64 1,.int .i64 0,.slice (some ⟨g,0,none⟩) 2 2,.slice none 0 0]] w (WfPost w):=by
 refine (withMethod_any Cf.kA vs Cf.mF0 (.slice (some ⟨g,0,none⟩) 2 2) (.slice none 0 0) Cf.fS Cf.dS w ⟨t1,t3,pzA.1,pzA.2⟩ hR szA pzA hB ⟨rfl,by decide,.inl ⟨rfl,none,0,rfl⟩⟩ (by decide) (by decide) (by decide) (by decide) (by decide)).mono ?_
 rintro e w1 ⟨l1,i1,e1,l2,i2,e2,h1,h2,h3,hb⟩
 obtain ⟨rfl,rfl,rfl⟩:=h1.det Cf.ad7
 obtain ⟨rfl,rfl,rfl⟩:=h2.det Cf.ad8
 rcases h3 with ⟨h,-⟩|⟨-,⟨-,vs',rfl,hO,-⟩|⟨er,hz,hc,-⟩⟩
 ·exact absurd rfl h
 ·have hR2 : ClR w1 vs' Cf.kF:=hO.reads szF
  have hR3 : OCl w1 w.heap.size vs' Cf.kF:=hO
  obtain ⟨pv,fv,mv,rfl,hp,hf,hm⟩:=hR2
  obtain ⟨pa,pc,rfl⟩:=hp.len
  obtain ⟨fa,fc,rfl⟩:=hf.len
  obtain ⟨ma,mc,rfl⟩:=hm.len
  exact ⟨pa,pc,fa,fc,ma,mc,rfl,hR3,hb⟩
 ·exact absurd (Cf.ClIs.det hc Cf.cl_F) hz
theorem lenF : (Cf.clB Cf.kF).length = 98:=by decide +kernel
theorem headF : (Cf.clB Cf.kF)[0]? = some 202:=by decide +kernel
theorem bytF : L3.Byt (Cf.clB Cf.kF):=by unfold L3.Byt;decide +kernel
theorem i6F : ∀ x ∈ Cf.kF.pool,L3.I6 x.n:=by unfold L3.I6;decide +kernel
theorem backF : Cf.clP (L3.bsOf (Cf.clB Cf.kF)) = .ok (Cf.kF,[]) :=
 Cf.cl_back (Cf.cl_ranges Cf.cl_F i6F ⟨⟨by decide,by decide⟩,fun m hm=>(by cases hm),fun m hm=>(by
  obtain rfl:=List.mem_singleton.1 hm
  exact ⟨by decide,by decide⟩)⟩)
def EfPost (w : World) (e : Ending) (w' : World) : Prop:=∃ g cap,e = .returned (.tuple #[.slice (some ⟨g,0,none⟩) 98 cap,.int .i64 0]) ∧ L3.Bs w'.heap.size w' (.slice (some ⟨g,0,none⟩) 98 cap) (L3.bsOf (Cf.clB Cf.kF)) ∧ w'.cell? ⟨g,0,none⟩ = some (.int .u8 202) ∧ Below w.heap.size w w'
theorem encF (w : World) (t1 : L1.Tabs w) (t3 : L3.Tabs w) (vs : Array Value) (hR : ClR w vs Cf.kF) : Calls Tryz.prog 15 #[.agg vs] w (EfPost w):=by
 refine (encode_any Cf.kF vs w ⟨t1,t3,pzF.1,pzF.2⟩ hR).mono ?_
 rintro e w1 ⟨er,hc,-,h,hb⟩
 obtain rfl:=Cf.ClIs.det hc Cf.cl_F
 obtain ⟨v,rfl,hO⟩:=(h rfl).2 (by rw [lenF];decide)
 obtain ⟨g,cap,rfl,hg,hcl⟩:=own_some hO (by rw [lenF];decide)
 have h0:=hcl 0 (.int .u8 202) (by rw [List.getElem?_map,headF];rfl)
 rw [add_at] at h0
 have hbs:=L3.bs_of_own hO bytF (by rw [lenF];decide)
 rw [lenF] at hbs ⊢
 exact ⟨g,cap,rfl,hbs,h0,hb⟩
def DfPost (w : World) (e : Ending) (w' : World) : Prop:=∃ pa pc fa fc ma mc,e = .returned (.tuple #[.agg #[.int .i64 0,.int .i64 52,.slice pa 8 pc,.int .i64 33,.int .i64 3,.int .i64 5,.slice fa 0 fc,.slice ma 1 mc],.int .i64 0]) ∧
 ClR w' #[.int .i64 0,.int .i64 52,.slice pa 8 pc,.int .i64 33,.int .i64 3,.int .i64 5,.slice fa 0 fc,.slice ma 1 mc] Cf.kF ∧ Below w.heap.size w w'
theorem decF (w : World) (t1 : L1.Tabs w) (t3 : L3.Tabs w) (v : Value) (hv : L3.Bs w.heap.size w v (L3.bsOf (Cf.clB Cf.kF))) : Calls Tryz.prog 11 #[v] w (DfPost w):=by
 refine (decode_any _ v w t1 t3 hv).mono ?_
 rintro e w1 ⟨c,er,vs,hD,rfl,hR,-,-,hb⟩
 unfold Cf.DcIs at hD
 rw [if_neg (by rw [L3.bsOf_len,lenF];decide),backF] at hD
 obtain ⟨e2,hc,hD⟩:=hD
 obtain rfl:=Cf.ClIs.det hc Cf.cl_F
 rw [if_pos rfl] at hD
 obtain ⟨rfl,rfl⟩:=hD
 have hR3:=hR
 obtain ⟨pv,fv,mv,rfl,hp,hf,hm⟩:=hR
 obtain ⟨pa,pc,rfl⟩:=hp.len
 obtain ⟨fa,fc,rfl⟩:=hf.len
 obtain ⟨ma,mc,rfl⟩:=hm.len
 exact ⟨pa,pc,fa,fc,ma,mc,rfl,hR3,hb⟩
end Go.Proofs.YtnojgiflgmnjlaaGreatDoor
namespace Go.Proofs.YtnojgiflgmnjlaaGreatDoor
open Go.RowKit
set_option maxHeartbeats 1000000 in
theorem begun_any (w : World) (t1 : L1.Tabs w) (t3 : L3.Tabs w) : Calls Tryz.prog 13 #[] w fun e w'=>e = .returned (.bool true) ∧ Below w.heap.size w w':=by
 have HT:=hid (And.intro t1 t3)
 clear t1 t3
 go_enter Tryz.func13,Tryz.ntmps13
 go_wp2_with (first|(go_at_call 30;(fail_if_success (have _g:=HB1));refine (newA w HT.out.2).mono ?_;rintro e w1 ⟨pa,pc,fa,fc,ma,mc,rfl,hR,hb1⟩;have HR1:=hid hR;have HB1:=hid hb1;clear hR hb1)|(go_at_call 28;(fail_if_success (have _g:=HB2));go_loud (have B2 : Below w1.heap.size w1 ((w1.alloc (.cells #[.int .i64 0,.int .i64 52,.slice pa 6 pc,.int .i64 33,.int .i64 3,.int .i64 5,.slice fa 0 fc,.slice ma 0 mc] 26)).alloc (.cells #[.int .u8 4,.int .u8 172] 5)):=BLw;have bC:=BX.al (L3.BX.new w1 #[.int .i64 0,.int .i64 52,.slice pa 6 pc,.int .i64 33,.int .i64 3,.int .i64 5,.slice fa 0 fc,.slice ma 0 mc] 26) (.cells #[.int .u8 4,.int .u8 172] 5);have hcd:=code2 (w1.alloc (.cells #[.int .i64 0,.int .i64 52,.slice pa 6 pc,.int .i64 33,.int .i64 3,.int .i64 5,.slice fa 0 fc,.slice ma 0 mc] 26)) 5;have hzc : (w1.alloc (.cells #[.int .i64 0,.int .i64 52,.slice pa 6 pc,.int .i64 33,.int .i64 3,.int .i64 5,.slice fa 0 fc,.slice ma 0 mc] 26)).heap.size = w1.heap.size + 1:=World.size_alloc _ _;rw [hzc] at hcd;obtain ⟨W2,hW2⟩ : ∃ W,W = (w1.alloc (.cells #[.int .i64 0,.int .i64 52,.slice pa 6 pc,.int .i64 33,.int .i64 3,.int .i64 5,.slice fa 0 fc,.slice ma 0 mc] 26)).alloc (.cells #[.int .u8 4,.int .u8 172] 5):=⟨_,rfl⟩;rw [← hW2] at B2 bC hcd ⊢;have B20:=belows HB1.out B2 HB1.out.size;refine (withF W2 (HT.out.1.below B20 HT.out.1.size) (HT.out.2.below B20 HT.out.2.size) _ (HR1.out.below B2 (Nat.le_refl _)) _ hcd).mono ?_;rintro e w2 ⟨pa2,pc2,fa2,fc2,ma2,mc2,rfl,hO,hb2⟩;have bC2:=bC.below hb2 bC.sz;have HO2:=hid hO;have HC2:=hid bC2;have hcW : w1.heap.size < W2.heap.size:=bC.sz;have B22:=belows B20 hb2 B20.size;have HB2:=hid B22;have hzw : w.heap.size ≤ w1.heap.size:=HB1.out.size;have c0:=bC2.cell 0;have zc0:=bC2.frozen 0;have c1:=bC2.cell 1;have zc1:=bC2.frozen 1;have c2:=bC2.cell 2;have zc2:=bC2.frozen 2;have c3:=bC2.cell 3;have zc3:=bC2.frozen 3;have c4:=bC2.cell 4;have zc4:=bC2.frozen 4;have c5:=bC2.cell 5;have zc5:=bC2.frozen 5;have c6:=bC2.cell 6;have zc6:=bC2.frozen 6;have c7:=bC2.cell 7;have zc7:=bC2.frozen 7;simp at c0 c1 c2 c3 c4 c5 c6 c7;clear hW2 B2 B20 B22 bC bC2 hb2 hO hcd hzc))|(go_at_call 15;(fail_if_success (have _g:=HB3));go_loud (have g8:=grown8 w2 w1.heap.size (.int .i64 0) (.int .i64 52) (.slice pa2 8 pc2) (.int .i64 33) (.int .i64 3) (.int .i64 5) (.slice fa2 0 fc2) (.slice ma2 1 mc2);have bC:=put8 HC2.out rfl (.int .i64 0) (.int .i64 52) (.slice pa2 8 pc2) (.int .i64 33) (.int .i64 3) (.int .i64 5) (.slice fa2 0 fc2) (.slice ma2 1 mc2);have oC:=HO2.out.grown g8 hcW;have B3:=nwB HB2.out g8 ⟨hzw,HB2.out.size⟩;obtain ⟨W3,hW3⟩ : ∃ W,W = ((((((((w2.setCell ⟨w1.heap.size,0,none⟩ (.int .i64 0)).setCell ⟨w1.heap.size,1,none⟩ (.int .i64 52)).setCell ⟨w1.heap.size,2,none⟩ (.slice pa2 8 pc2)).setCell ⟨w1.heap.size,3,none⟩ (.int .i64 33)).setCell ⟨w1.heap.size,4,none⟩ (.int .i64 3)).setCell ⟨w1.heap.size,5,none⟩ (.int .i64 5)).setCell ⟨w1.heap.size,6,none⟩ (.slice fa2 0 fc2)).setCell ⟨w1.heap.size,7,none⟩ (.slice ma2 1 mc2)):=⟨_,rfl⟩;rw [← hW3] at bC oC B3 ⊢;have hR3:=oC.reads szF;refine (encF W3 (HT.out.1.below B3 HT.out.1.size) (HT.out.2.below B3 HT.out.2.size) _ hR3).mono ?_;rintro e w3 ⟨g,gc,rfl,hbs,h0,hb3⟩;have HR3:=hid (hR3.below hb3 (Nat.le_refl _));have HC3:=hid (bC.below hb3 bC.sz);have B33:=belows B3 hb3 B3.size;have HB3:=hid B33;have HBs:=hid hbs;have H0:=hid h0;clear c0 c1 c2 c3 c4 c5 c6 c7 zc0 zc1 zc2 zc3 zc4 zc5 zc6 zc7;have bC3:=HC3.out;obtain ⟨c0,c1,c2,c3,c4,c5,c6,c7⟩:=bC3.cells8;clear hW3 g8 bC oC B3 B33 hb3 hR3 hbs h0 bC3))|(go_at_call 11;(fail_if_success (have _g:=HB4));go_loud (refine (decF w3 (HT.out.1.below HB3.out HT.out.1.size) (HT.out.2.below HB3.out HT.out.2.size) _ HBs.out).mono ?_;rintro e w4 ⟨pa4,pc4,fa4,fc4,ma4,mc4,rfl,hR4,hb4⟩;have HR4:=hid hR4;have HR3:=hid (HR3.out.below hb4 (Nat.le_refl _));have B44:=belows HB3.out hb4 HB3.out.size;have HB4:=hid B44;have bC4:=HC3.out.below hb4 HC3.out.sz;have hcz4 : w1.heap.size < w4.heap.size:=bC4.sz;obtain ⟨gb,hgb⟩ : ∃ x,x = g:=⟨_,rfl⟩;have hgz : g < w3.heap.size:=World.block_lt_of_cell? w3 _ H0.out;have hgz4 : g < w4.heap.size:=Nat.lt_of_lt_of_le hgz hb4.size;have h04:=(hb4.cell (p:=⟨g,0,none⟩) hgz).trans H0.out;clear c0 c1 c2 c3 c4 c5 c6 c7;obtain ⟨c0,c1,c2,c3,c4,c5,c6,c7⟩:=bC4.cells8;clear hgb B44 bC4 hb4 hR4))|(go_at_call 14;go_loud (have B5 : Below w4.heap.size w4 (w4.alloc (.cells #[.int .i64 0,.int .i64 52,.slice pa4 8 pc4,.int .i64 33,.int .i64 3,.int .i64 5,.slice fa4 0 fc4,.slice ma4 1 mc4] 26)):=(Below.refl _ _).alloc (Nat.le_refl _) _;refine (rsame_any Cf.kF _ _ _ (HR3.out.below B5 (Nat.le_refl _)) (HR4.out.below B5 (Nat.le_refl _))).mono ?_;rintro e w5 ⟨rfl,hb5⟩;have bD:=(L3.BX.new w4 #[.int .i64 0,.int .i64 52,.slice pa4 8 pc4,.int .i64 33,.int .i64 3,.int .i64 5,.slice fa4 0 fc4,.slice ma4 1 mc4] 26).below hb5 (L3.BX.new w4 #[.int .i64 0,.int .i64 52,.slice pa4 8 pc4,.int .i64 33,.int .i64 3,.int .i64 5,.slice fa4 0 fc4,.slice ma4 1 mc4] 26).sz;have d7:=bD.cell 7;simp at d7;have B55:=belows (belows HB4.out B5 HB4.out.size) hb5 (by (have:=HB4.out.size;rw [World.size_alloc];omega));have HB5:=hid B55;clear B5 hb5 bD B55)))
 go_ret
 exact ⟨rfl,HB5.out⟩
end Go.Proofs.YtnojgiflgmnjlaaGreatDoor
namespace Go.Proofs.YtnojgiflgmnjlaaGreatDoor
open Go Go.RowKit
theorem oneCell_of_bs {w : World} {lim : Nat} {v : Value} {bs : List UInt8} (h : L3.Bs lim w v bs) : v.oneCell' = true:=by
 rcases h.2 with ⟨-,a,cap,rfl⟩|⟨b,o,cap,rfl,-⟩ <;> rfl
theorem oneCell_of_is {w : World} {s n : Nat} {v : Value} {xs : List Value} (h : Kit.IsS s w v n xs) : v.oneCell' = true:=by
 obtain ⟨a,cap,rfl⟩:=h.len
 rfl
theorem MsC.ones {w : World} : ∀ {rs : List (List Value)} {ms : List Cf.Mb},MsC w rs ms → ∀ u ∈ rs.flatten,u.oneCell' = true
 | [],[],_,u,hu=>by simp at hu
 | r :: rs,m :: ms,h,u,hu=>by
  rw [List.flatten_cons,List.mem_append] at hu
  rcases hu with hu|hu
  ·obtain ⟨cv,hv,rfl,hB,hH,-⟩:=h.1
   have h1:=oneCell_of_bs hB
   have h2:=oneCell_of_is hH
   simp only [List.mem_cons,List.not_mem_nil,or_false] at hu
   rcases hu with rfl|rfl|rfl|rfl|rfl|rfl|rfl <;> first|rfl|assumption
  ·exact h.2.ones u hu
 | [],_ :: _,h,_,_=>h.elim
 | _ :: _,[],h,_,_=>h.elim
theorem MsC.app {w : World} : ∀ {rs qs : List (List Value)} {ms ns : List Cf.Mb},MsC w rs ms → MsC w qs ns → MsC w (rs ++ qs) (ms ++ ns)
 | [],_,[],_,_,k=>k
 | _ :: _,_,_ :: _,_,h,k=>⟨h.1,h.2.app k⟩
 | [],_,_ :: _,_,h,_=>h.elim
 | _ :: _,_,[],_,h,_=>h.elim
end Go.Proofs.YtnojgiflgmnjlaaGreatDoor
namespace Go.Proofs.YtnojgiflgmnjlaaGreatDoor
open Go Go.RowKit
theorem wpList_append_bs {w : World} {ops : Array Oper} {rest : List Oper} {o : Oper} {a : Act} {Q : Exit → Act → World → Prop} (hgd : o.guard = none) (s x : Operand)
  (ho : o.op = .call { callee:=.builtin .append,args:=#[s,x],argTypes:=#[22,22] }) (hs : a.eval s = .slice none 0 0) (xv : Value) (hx : a.eval x = xv) (lim : Nat) (l : List UInt8) (hb : L3.Bs lim w xv l) (hl : l.length ≤ 140737488355328)
  (hK : ∀ b c w',w'.ownsRow w.heap.size 5 1 (.slice b l.length c) l.length (l.map L3.bv) → Below w.heap.size w w' → wpList Tryz.prog ops Q rest (a.put o.dst (.slice b l.length c)) w') : wpList Tryz.prog ops Q (o :: rest) a w:=by
 refine wpList_plain hgd fun K hK'=>?_
 obtain ⟨i0,hi,hz0,hz1,hz2⟩:=info_parts L3.infoB
 have fin : ∀ v' w',w'.ownsRow w.heap.size 5 1 v' (0 + l.length) ([] ++ l.map L3.bv) → Below w.heap.size w w' → K (a.put o.dst v') w':=fun v' w' h2 h3=>by
  rw [Nat.zero_add,List.nil_append] at h2
  obtain ⟨b,c,rfl⟩:=L3.own_form h2
  exact hK' _ _ (hK b c w' h2 h3)
 have some' : ∀ ad c,xv = .slice (some ad) l.length c → (∀ j u,(l.map L3.bv)[j]? = some u → w.cell? (ad.add j) = some u) → Oper.wp Tryz.prog o a w K Q:=fun ad c he hc=>by
  subst he
  obtain ⟨v',w',hr',h2,h3,-,h5⟩:=run_append_own_at (P:=Tryz.prog) w w.heap.size 22 o.type 5 i0 _ 1 1 Tryz.underlying22 hi hz0 hz1 hz2 rfl (by decide) (.slice none 0 0) 0 [] (⟨rfl,.inl ⟨rfl,rfl⟩⟩) ad l.length c (l.map L3.bv) (by rw [List.length_map,Nat.mul_one]) hc (ones_b l) (by unfold maxLen;omega) (by omega) (Nat.le_refl _)
  unfold Oper.wp execOp
  simp only [ho,resolve,invoke,builtin,Sem.run_bind,Sem.run_pure,Result.andThen_ok,List.map_toArray,List.map_cons,List.map_nil,hs,hx,hr']
  exact fin _ _ h2 (Kit.below_grown (Below.refl _ _) h3 (Nat.le_refl _) (fun k hk=>by cases hk))
 rcases hb.2 with ⟨h0,ad,c,he⟩|⟨b,ofs,c,he,-,-,hc⟩
 ·subst h0
  cases ad with
  | some ad=>exact some' ad c he (fun j u hj=>by simp at hj)
  | none =>
   subst he
   have hr:=run_append_nothing (P:=Tryz.prog) w 22 22 o.type 5 i0 Tryz.underlying22 hi none 0 0 (Nat.le_refl _) (.slice none 0 c) (by rw [hz1];exact L3.src_none c w)
   unfold Oper.wp execOp
   simp only [ho,resolve,invoke,builtin,Sem.run_bind,Sem.run_pure,Result.andThen_ok,List.map_toArray,List.map_cons,List.map_nil,hs,hx,hr]
   exact fin _ _ (⟨rfl,.inl ⟨rfl,rfl⟩⟩) (Below.refl _ _)
 ·exact some' _ c he (fun j u hj=>by
   rw [List.getElem?_map] at hj
   cases hc9 : l[j]? with
   | none=>rw [hc9] at hj;cases hj
   | some c9=>rw [hc9] at hj;cases hj;rw [Go.WideShapes.add_plain];exact hc j c9 hc9)
structure Mst (w : World) (pb : Nat) (bs : List UInt8) (w' : World) (t : List UInt8 × Int) (mb : Nat) (cs : Array Value) : Prop where
 g : w.grownBy w' (some pb)
 r : RdD w' pb bs t
 rx : L3.BX w' w.heap.size #[.int .i64 0,.int .i64 0,.int .i64 0,.int .i64 0,.int .i64 0,.slice none 0 0,.slice none 0 0] 42
 mx : L3.BX w' mb cs 42
 lt : w.heap.size < mb
 pl : pb < w.heap.size
theorem Mst.step {w w' w'' : World} {pb mb : Nat} {bs : List UInt8} {t t' : List UInt8 × Int} {cs : Array Value} (h : Mst w pb bs w' t mb cs) (hg : w'.grownBy w'' (some pb)) (hr : RdD w'' pb bs t') : Mst w pb bs w'' t' mb cs:=by
 have h1:=h.lt
 have h2:=h.pl
 exact ⟨L3.grown_trans h.g hg,hr,h.rx.grown hg (fun e=>by (have:=Option.some.inj e;omega)),h.mx.grown hg (fun e=>by (have:=Option.some.inj e;omega)),h.lt,h.pl⟩
theorem Mst.below {w w' w'' : World} {pb mb : Nat} {bs : List UInt8} {t : List UInt8 × Int} {cs : Array Value} (h : Mst w pb bs w' t mb cs) (hb : Below w'.heap.size w' w'') : Mst w pb bs w'' t mb cs :=
 ⟨L3.grown_trans h.g (L3.grown_of_below hb _),h.r.below hb h.r.sz,h.rx.below hb h.rx.sz,h.mx.below hb h.mx.sz,h.lt,h.pl⟩
theorem Mst.set {w w' : World} {pb mb : Nat} {bs : List UInt8} {t : List UInt8 × Int} {cs : Array Value} (h : Mst w pb bs w' t mb cs) (j : Nat) (u : Value) : Mst w pb bs (w'.setCell ⟨mb,j,none⟩ u) t mb (cs.setIfInBounds j u):=by
 have h1:=h.lt
 have h2:=h.pl
 have hg:=L3.set_grown w' mb j u
 exact ⟨grown_off h.g hg (Nat.le_of_lt h.lt),h.r.off hg (by omega),h.rx.grown hg (fun e=>by (have:=Option.some.inj e;omega)),h.mx.set j u,h.lt,h.pl⟩
theorem Cf.me_run {code : Int} {s t1 t2 t3 t4 t5 t6 t7 t8 t9 t10 ta tb tc td te : List UInt8 × Int} {x1 x2 x3 x4 i n st lc cn : Int} {co : List UInt8} {hs : List Cf.Hn} (h1 : Cf.Run Cf.u2 s x1 t1) (h2 : Cf.Run Cf.u2 t1 x2 t2) (h3 : Cf.Run Cf.u2 t2 x3 t3) (h4 : Cf.Run Cf.u2 t3 x4 t4) (h5 : Cf.Run (Cf.want (x4 == 1) 43) t4 () t5)
  (h6 : Cf.Run Cf.u2 t5 i t6) (h7 : Cf.Run (Cf.want (decide (i = code ∧ i ≠ 0)) 43) t6 () t7) (h8 : Cf.Run Cf.u4 t7 n t8) (h9 : Cf.Run Cf.u2 t8 st t9) (h10 : Cf.Run Cf.u2 t9 lc t10) (h11 : Cf.Run Cf.u4 t10 cn ta) (h12 : Cf.Run (Cf.takeP cn.toNat) ta co tb) (h13 : Cf.Run (Cf.listN Cf.hnP) tb hs tc)
  (h14 : Cf.Run Cf.noneP tc () td) (h15 : td.2 = 0 → Cf.Run (Cf.want (decide (n = (t8.1.length : Int) - (td.1.length : Int))) 43) td () te) (h16 : td.2 ≠ 0 → te.2 = td.2) : Cf.Run (Cf.meP code) s ⟨x1,x2,x3,st,lc,co,hs⟩ te:=by
 unfold Cf.meP
 refine Cf.Run.bnd (Cf.mb_run h1 h2 h3) ?_
 refine Cf.Run.bnd h4 ?_
 refine Cf.Run.bnd h5 ?_
 refine Cf.Run.bnd h6 ?_
 refine Cf.Run.bnd h7 ?_
 refine Cf.Run.bnd h8 ?_
 have hb : Cf.Run (Cf.bodyP ⟨x1,x2,x3,0,0,[],[]⟩) t8 ⟨x1,x2,x3,st,lc,co,hs⟩ td:=by
  unfold Cf.bodyP
  refine Cf.Run.bnd h9 ?_
  refine Cf.Run.bnd h10 ?_
  refine Cf.Run.bnd h11 ?_
  refine Cf.Run.bnd h12 ?_
  refine Cf.Run.bnd h13 ?_
  refine Cf.Run.bnd h14 ?_
  exact Cf.Run.ret _ _
 by_cases hd : td.2 = 0
 ·obtain ⟨k1,k2⟩:=hb.alive hd
  refine ⟨fun h=>absurd k1 h,fun _=>?_⟩
  have hw:=h15 hd
  unfold Cf.sizedP
  rw [k2]
  rcases hw.2 hd with ⟨e,q1,q2,q3⟩|⟨q1,q2⟩
  ·unfold Cf.want at q1
   split at q1
   ·cases q1
   ·rename_i hne
    cases q1
    refine .inl ⟨43,?_,q2,q3⟩
    show (if n = (t8.1.length : Int) - (td.1.length : Int) then _ else _) = _
    rw [if_neg (by simpa using hne)]
  ·unfold Cf.want at q1
   split at q1
   ·rename_i hne
    refine .inr ⟨?_,q2⟩
    have hn:=of_decide_eq_true hne
    show (if n = (t8.1.length : Int) - (td.1.length : Int) then _ else _) = _
    rw [if_pos hn]
    have:=(Prod.mk.inj (Except.ok.inj q1)).2
    rw [this]
   ·cases q1
 ·have ht:=h16 hd
  refine ⟨fun h=>by rw [ht];exact hb.1 h,fun h=>?_⟩
  rcases hb.2 h with ⟨e,q1,q2,q3⟩|⟨q1,q2⟩
  ·exact .inl ⟨e,by unfold Cf.sizedP;rw [q1],q2,by rw [ht,q3]⟩
  ·exact absurd q2 hd
end Go.Proofs.YtnojgiflgmnjlaaGreatDoor
