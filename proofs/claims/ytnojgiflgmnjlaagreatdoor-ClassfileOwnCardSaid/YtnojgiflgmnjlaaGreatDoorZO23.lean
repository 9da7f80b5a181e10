/- Own texts for the claim, part 23. -/
import Derived.Test.YtnojgiflgmnjlaaGreatDoorZO22
set_option maxRecDepth 100000
namespace Go.Proofs.YtnojgiflgmnjlaaGreatDoor
open Go.RowKit
theorem putB_max {l : List L3.Cp.C} (h : L3.CkIs l 0) : (L3.putB l).length ≤ 2000000:=by
 have h1:=L3.ck_size h
 have h2:=L3.encT_len h1.2 (L3.told l l.length)
 have h3:=L3.told_len l l.length
 unfold L3.putB
 rw [List.length_append,L3.bytesN_len]
 omega
theorem putB_pos (l : List L3.Cp.C) : 0 < (L3.putB l).length:=by
 unfold L3.putB
 rw [List.length_append,L3.bytesN_len]
 omega
theorem cl_bytes (c : Cf.Cl) : [] ++ Cf.w4 3405691582 ++ [c.mi,c.ma].flatMap Cf.w2 ++ L3.putB c.pool ++ [c.ac,c.th,c.su,0].flatMap Cf.w2 ++ Cf.w2 c.fs.length ++ c.fs.flatMap Cf.fdB ++ Cf.w2 c.ms.length ++ c.ms.flatMap (Cf.meB (Cf.cix c.pool)) ++ [0].flatMap Cf.w2 = Cf.clB c:=by
 unfold Cf.clB
 simp [List.append_assoc]
theorem st6_new {W5 w9 : World} {v : Value} {l : List Int} {base cx : Nat} (B9 : Below W5.heap.size W5 w9) (ho : L3.OwnI W5 base v l) : Below W5.heap.size W5 (w9.alloc (.cells #[.int .i64 (cx : Nat)] 3)) ∧ Cel (w9.alloc (.cells #[.int .i64 (cx : Nat)] 3)) v w9.heap.size cx:=by
 refine ⟨B9.alloc B9.size _,⟨by rw [World.size_alloc];omega,?_,fun k hk e=>?_⟩⟩
 ·rw [(L3.BX.new w9 _ _).cell];rfl
 ·have:=Kit.own_lt ho k hk
  have:=B9.size
  omega
theorem st6_set {W5 w9 : World} {v : Value} {l : List Int} {base cx pb : Nat} {T : TypeId} (B9 : Below W5.heap.size W5 w9) (bP : L3.BX w9 pb #[.int .i64 0] T) (hp : W5.heap.size ≤ pb) (ho : L3.OwnI W5 base v l) : Below W5.heap.size W5 (w9.setCell ⟨pb,0,none⟩ (.int .i64 (cx : Nat))) ∧ Cel (w9.setCell ⟨pb,0,none⟩ (.int .i64 (cx : Nat))) v pb cx:=by
 refine ⟨B9.setCell (p:=⟨pb,0,none⟩) hp _,⟨by rw [World.size_setCell];exact bP.sz,?_,fun k hk e=>?_⟩⟩
 ·rw [(bP.set 0 _).cell];rfl
 ·have:=Kit.own_lt ho k hk
  omega
set_option maxHeartbeats 4000000 in
theorem write_any (c : Cf.Cl) (vs : Array Value) (pv : Value) (pbase : Nat) (w : World) (h : ClR w vs c) (hk : L3.CkIs c.pool 0) (hf : c.fs.length ≤ 256) (hm : c.ms.length ≤ 256) (hg : ∀ m ∈ c.ms,0 < m.code.length ∧ m.code.length ≤ 4096 ∧ m.hs.length ≤ 64)
  (hp : L3.OwnI w pbase pv (L3.putB c.pool)) :
  Calls Tryz.prog 45 #[.agg vs,pv] w fun e w'=>∃ v',e = .returned v' ∧ L3.OwnI w' w.heap.size v' (Cf.clB c) ∧ Below w.heap.size w w':=by
 obtain ⟨i0,hi,hz0,hz1,hz2⟩:=info_parts infoB
 obtain ⟨pg,pcap,rfl,hpg,hpc⟩:=own_some hp (putB_pos _)
 obtain ⟨cv,fv,mv,rfl,hP,hF,hM⟩:=h
 obtain ⟨pa,pc,rfl⟩:=hP.len
 obtain ⟨fa,fc,rfl⟩:=hF.len
 obtain ⟨ma2,mc,rfl⟩:=hM.len
 have HPC:=hid hpc
 have HCb:=hid (cl_bytes c)
 have HPm:=hid (putB_max hk)
 have HPl:=hid (show c.pool.length * 48 ≤ 140737488355328 by have:=(L3.ck_size hk).1;omega)
 have HCl:=hid (And.intro hP (And.intro hF hM))
 have HGd:=hid hg
 obtain ⟨mi,ma,P,ac,th,su,fs,ms⟩:=c
 dsimp only at HPC HCb HPm HPl HCl HGd hf hm ⊢
 obtain ⟨pn,hpn⟩ : ∃ n,n = (L3.putB P).length:=⟨_,rfl⟩
 have HPn:=hid hpn
 rw [← hpn]
 clear hk hg hp hpc hP hF hM hpn
 go_enter Tryz.func45,Tryz.ntmps45
 go_wp2_with fail
 have bX:=L3.BX.new w #[.int .i64 mi,.int .i64 ma,.slice pa P.length pc,.int .i64 ac,.int .i64 th,.int .i64 su,.slice fa fs.length fc,.slice ma2 ms.length mc] 26
 have hb1 : Below w.heap.size w (w.alloc (.cells #[.int .i64 mi,.int .i64 ma,.slice pa P.length pc,.int .i64 ac,.int .i64 th,.int .i64 su,.slice fa fs.length fc,.slice ma2 ms.length mc] 26)):=(Below.refl _ _).alloc (Nat.le_refl _) _
 obtain ⟨W1,hW1⟩ : ∃ W1,W1 = w.alloc (.cells #[.int .i64 mi,.int .i64 ma,.slice pa P.length pc,.int .i64 ac,.int .i64 th,.int .i64 su,.slice fa fs.length fc,.slice ma2 ms.length mc] 26):=⟨_,rfl⟩
 rw [← hW1] at bX hb1 ⊢
 have BX:=hid bX
 have HB1:=hid hb1
 have HC1:=hid (show Kit.IsS 5 W1 (.slice pa P.length pc) P.length (P.flatMap L3.cL) ∧ MsR W1 (.slice fa fs.length fc) fs ∧ MsR W1 (.slice ma2 ms.length mc) ms from ⟨HCl.out.1.below hb1 (Nat.le_refl _),HCl.out.2.1.below hb1 (Nat.le_refl _),HCl.out.2.2.below hb1 (Nat.le_refl _)⟩)
 clear hW1 bX hb1
 go_wp2_with (first|(go_at_call 89;refine (wpo (wu4_wr W1 _ [] _ _ (Wr.nil W1 W1 (Below.refl _ _)) (by decide))).mono ?_;rintro e Wa ⟨v1,L1,rfl,h1,HL1,g1⟩;have HE1:=hid (show L1.length = 4 from by (rw [HL1.out];rfl));obtain ⟨a1,k1,c1,rfl⟩:=own_form3 h1.1;have HB9:=h1.2;have bX:=BX.out.below HB9 BX.out.sz;obtain ⟨q0,q1,q2,q3,q4,q5,q6,q7⟩:=bX.cells8;clear bX HB9;have HA1:=hid h1;clear h1 g1)|(go_at_call 90;have _g:=HA3;(fail_if_success (have _g:=HA4));refine (wpo (wu2_k W1 _ _ [ac,th,su,0] _ _ 4 4 _ _ HA3.out rfl (by (have:=HE3.out;have:=HPm.out;omega)) rfl rfl)).mono ?_;rintro e W4 ⟨v4,L4,rfl,h4,HL4,g4⟩;have HE4:=hid (show L4.length = 16 + (L3.putB P).length from by (have h9:=congrArg List.length HL4.out;rw [List.length_append,HE3.out] at h9;have h8 : ([ac,th,su,0].flatMap Cf.w2).length = 8:=rfl;omega));obtain ⟨a4,k4,c4,rfl⟩:=own_form3 h4.1;have HB9:=h4.2;have bX:=BX.out.below HB9 BX.out.sz;obtain ⟨q0,q1,q2,q3,q4,q5,q6,q7⟩:=bX.cells8;clear bX HB9;have HA4:=hid h4;clear h4 g4)|(go_at_call 90;(fail_if_success (have _g:=HA2));refine (wpo (wu2_k W1 _ _ [mi,ma] _ _ 2 2 _ _ HA1.out rfl (by (have:=HE1.out;omega)) rfl rfl)).mono ?_;rintro e W2 ⟨v2,L2,rfl,h2,HL2,g2⟩;have HE2:=hid (show L2.length = 8 from by (have h9:=congrArg List.length HL2.out;rw [List.length_append,HE1.out] at h9;have h8 : ([mi,ma].flatMap Cf.w2).length = 4:=rfl;omega));obtain ⟨a2,k2,c2,rfl⟩:=own_form3 h2.1;have HB9:=h2.2;have bX:=BX.out.below HB9 BX.out.sz;obtain ⟨q0,q1,q2,q3,q4,q5,q6,q7⟩:=bX.cells8;clear bX HB9;have HA2:=hid h2;clear h2 g2)|(at_builtin;(fail_if_success (have _g:=HA3));refine wpList_append_own_at _ rfl (.tmp 16) (.tmp 17) 22 rfl W1.heap.size 5 i0 _ 1 1 Tryz.underlying22 hi hz0 hz1 hz2 rfl (by decide) _ _ _ rfl HA2.out.1 ⟨pg,0,none⟩ pn pcap ((L3.putB P).map (Value.int .u8)) rfl (by rw [List.length_map,HPn.out,Nat.mul_one]) (fun j u hj=>by (have q9:=HPC.out j u hj;rw [add_at] at q9 ⊢;exact ((belows HB1.out HA2.out.2 HB1.out.size).cell (p:=⟨pg,0 + j,none⟩) (by simpa using hpg)).trans q9)) (ones_i _) (by (have:=HPm.out;have:=HPn.out;have:=HE2.out;unfold maxLen;omega)) (by (have:=HPm.out;have:=HPn.out;have:=HE2.out;omega)) HA2.out.2.size ?_;intro v3 W3 ho3 hg3 _ hk3;obtain ⟨Lc,HL3,h3⟩:=Wr.opq (HA2.out.grow (own_app rfl HPn.out ho3) (Kit.grows_append (Below.refl _ _) hg3 hk3));have HE3:=hid (show Lc.length = 8 + (L3.putB P).length from by (rw [HL3.out,List.length_append,HE2.out]));obtain ⟨a3,k3,c3,rfl⟩:=own_form3 h3.1;have HB9:=h3.2;have bX:=BX.out.below HB9 BX.out.sz;obtain ⟨q0,q1,q2,q3,q4,q5,q6,q7⟩:=bX.cells8;clear bX HB9;have HA3:=hid h3;clear h3 ho3 hg3 hk3)|(go_at_call 91;(fail_if_success (have _g:=HA5));refine (wpo (wfs_any W1 _ _ fs _ _ HA4.out HC1.out.2.1 (by (have:=HPm.out;have:=HE4.out;omega)))).mono ?_;rintro e W5 ⟨v5,L5,rfl,h5,HL5,g5⟩;have HE5:=hid (show L5.length = 18 + (L3.putB P).length + 8 * fs.length from by (rw [HL5.out,List.length_append,List.length_append,HE4.out,Cf.w2_len,fds_len];omega));obtain ⟨a5,k5,c5,rfl⟩:=own_form3 h5.1;have HB9:=h5.2;have bX:=BX.out.below HB9 BX.out.sz;obtain ⟨q0,q1,q2,q3,q4,q5,q6,q7⟩:=bX.cells8;clear bX HB9;have HA5:=hid h5;clear h5 g5))
 have hz5:=HA5.out.2.size
 have hzb:=BX.out.sz
 have hzb5 : w.heap.size < W5.heap.size:=by omega
 have HF:=hid (fun W (k : Below W5.heap.size W5 W)=>findCode_any P _ W (HC1.out.1.below (belows HA5.out.2 k HA5.out.2.size) (Nat.le_refl _)) HPl.out)
 have HUt:=hid (fun W=>utf8_any Cf.codeS W)
 have cfU:=fun (u : Value) (w : World)=>(show (callFunc 94 #[u]).run Tryz.prog w = .ok (.enter 94 #[u]) w by kernel_rfl)
 have cfF:=fun (u v : Value) (w : World)=>(show (callFunc 93 #[u,v]).run Tryz.prog w = .ok (.enter 93 #[u,v]) w by kernel_rfl)
 obtain ⟨cx,hcx⟩ : ∃ n,n = Cf.cix P:=⟨_,rfl⟩
 have HCx:=hid hcx
 rw [← hcx] at HF
 clear hcx
 go_region_law (first
  | (have _g:=hbU;refine Kit.step_call2 rfl 93 (.tmp 34) (.tmp 35) 23 56 rfl _ _ rfl rfl (cfF _ _ _) _ (HF.out _ ?_) ?_;(first|exact B8|exact BLw);rintro e w9 ⟨rfl,hbF⟩;refine ⟨_,rfl,?_⟩;have B9 : Below W5.heap.size W5 w9:=(by first|exact belows B8 hbF B8.size|exact belows B8 (below_undrew hbF) B8.size|exact belows (B8.alloc hz8 _) hbF (by simp only [World.size_alloc];omega)|exact belows (B8.alloc hz8 _) (below_undrew hbF) (by simp only [World.size_alloc];omega));(try (first|(have bP:=(BXi.below hbF BXi.sz);have pc0:=bP.cell 0;have pf0:=bP.frozen 0;simp at pc0)|(have bP:=(BXi.below (below_undrew hbF) BXi.sz);have pc0:=bP.cell 0;have pf0:=bP.frozen 0;simp at pc0)|(have bP:=(L3.BX.new w8 #[.int .i64 0] 3).below hbF (by simp);have pc0:=bP.cell 0;have pf0:=bP.frozen 0;simp at pc0)|(have bP:=(L3.BX.new w8 #[.int .i64 0] 3).below (below_undrew hbF) (by simp);have pc0:=bP.cell 0;have pf0:=bP.frozen 0;simp at pc0))))
  | (refine Kit.step_call1 rfl 94 (.const (.string ⟨#[67,111,100,101]⟩)) 9 rfl _ rfl (cfU _ _) _ (HUt.out _) ?_;rintro e w8 ⟨rfl,hbU⟩;refine ⟨_,rfl,?_⟩;have B8 : Below W5.heap.size W5 w8:=(by first|exact hbU|exact below_undrew hbU|exact belows ((Below.refl _ _).alloc (Nat.le_refl _) _) hbU (by simp only [World.size_alloc];omega)|exact belows ((Below.refl _ _).alloc (Nat.le_refl _) _) (below_undrew hbU) (by simp only [World.size_alloc];omega));have hz8:=B8.size;have hzb8 : w.heap.size < w8.heap.size:=(by (have:=HA5.out.2.size;have:=BX.out.sz;omega));have q2:=(B8.cell (p:=⟨w.heap.size,2,none⟩) (by (have:=HA5.out.2.size;simp;omega))).trans q2;(try (first|(have BXi:=(L3.BX.new W5 #[.int .i64 0] 3).below hbU (by simp))|(have BXi:=(L3.BX.new W5 #[.int .i64 0] 3).below (below_undrew hbU) (by simp))))))
 all_goals
  first
   | (have hs6:=st6_set (cx:=cx) (pb:=w8.heap.size) B9 bP (by omega) HA5.out.1;obtain ⟨W6,hW6⟩ : ∃ W,W = w9.setCell ⟨w8.heap.size,0,none⟩ (.int .i64 (cx : Nat)):=⟨_,rfl⟩;rw [← hW6] at hs6 ⊢;obtain ⟨B6,C6⟩:=hs6;obtain ⟨pb,hpb⟩ : ∃ n,n = w8.heap.size:=⟨_,rfl⟩;rw [← hpb] at C6 ⊢;clear hW6 hpb)
   | (have hs6:=st6_set (cx:=cx) (pb:=W5.heap.size) B9 bP (Nat.le_refl _) HA5.out.1;obtain ⟨W6,hW6⟩ : ∃ W,W = w9.setCell ⟨W5.heap.size,0,none⟩ (.int .i64 (cx : Nat)):=⟨_,rfl⟩;rw [← hW6] at hs6 ⊢;obtain ⟨B6,C6⟩:=hs6;obtain ⟨pb,hpb⟩ : ∃ n,n = W5.heap.size:=⟨_,rfl⟩;rw [← hpb] at C6 ⊢;clear hW6 hpb)
   | (have hs6:=st6_new (cx:=cx) B9 HA5.out.1;obtain ⟨W6,hW6⟩ : ∃ W,W = w9.alloc (.cells #[.int .i64 (cx : Nat)] 3):=⟨_,rfl⟩;rw [← hW6] at hs6 ⊢;obtain ⟨B6,C6⟩:=hs6;obtain ⟨pb,hpb⟩ : ∃ n,n = w9.heap.size:=⟨_,rfl⟩;rw [← hpb] at C6 ⊢;clear hW6 hpb)
  have CC:=hid C6
  have HA6:=hid (HA5.out.below B6)
  have BX6:=BX.out.below HA6.out.2 BX.out.sz
  have q7:=BX6.cell 7
  simp at q7
  clear BX6 C6 B6 B9 HF HUt cfU cfF hz5 hzb hzb5
  (go_wp2_with (first|(go_at_call 91;(fail_if_success (have _g:=HA7));refine (wpo (wms_any W1 _ _ ms _ cx pb _ HA6.out HC1.out.2.2 HGd.out hm (by (have:=HE5.out;have:=HPm.out;omega)) CC.out)).mono ?_;rintro e W7 ⟨v7,L7,rfl,h7,HL7,g7⟩;have HE7:=hid (show L7.length ≤ 5000000 from by (have h9:=congrArg List.length HL7.out;rw [List.length_append,List.length_append,HE5.out,Cf.w2_len] at h9;have h8:=mes_len (code:=cx) HGd.out;have:=HPm.out;omega));obtain ⟨a7,k7,c7,rfl⟩:=own_form3 h7.1;have HA7:=hid h7;clear h7 g7)|(go_at_call 90;have _g:=HA7;(fail_if_success (have _g:=HA8));refine (wpo (wu2_k W1 _ _ [(0 : Int)] _ _ 1 1 _ _ HA7.out rfl (by (have:=HE7.out;omega)) rfl rfl)).mono ?_;rintro e W8 ⟨v8,L8,rfl,h8,HL8,g8⟩;obtain ⟨a8,k8,c8,rfl⟩:=own_form3 h8.1;have HA8:=hid h8;clear h8 g8));go_ret;exact ⟨_,rfl,by (have e9 : L8 = Cf.clB ⟨mi,ma,P,ac,th,su,fs,ms⟩:=(by rw [HL8.out,HL7.out,HCx.out,HL5.out,HL4.out,HL3.out,HL2.out,HL1.out];exact HCb.out);rw [← e9];exact L3.own_mono HA8.out.1 HB1.out.size),belows HB1.out HA8.out.2 HB1.out.size⟩)
end Go.Proofs.YtnojgiflgmnjlaaGreatDoor
namespace Go.Proofs.YtnojgiflgmnjlaaGreatDoor
open Go.RowKit
def EnPost (c : Cf.Cl) (w : World) (e : Ending) (w' : World) : Prop :=
 ∃ er,Cf.ClIs c er ∧ (er ≠ 0 → e = .returned (.tuple #[.slice none 0 0,.int .i64 er])) ∧
  (er = 0 → (65536 < (Cf.clB c).length → e = .returned (.tuple #[.slice none 0 0,.int .i64 3])) ∧ ((Cf.clB c).length ≤ 65536 → ∃ v,e = .returned (.tuple #[v,.int .i64 0]) ∧ L3.OwnI w' w.heap.size v (Cf.clB c))) ∧ Below w.heap.size w w'
set_option maxHeartbeats 2000000 in
theorem encode_any (c : Cf.Cl) (vs : Array Value) (w : World) (hk : Ck w c) (h : ClR w vs c) : Calls Tryz.prog 15 #[.agg vs] w (EnPost c w):=by
 have HC:=hid (fun W (k : Below w.heap.size w W)=>check_any c vs W (hk.below k) (h.below k (Nat.le_refl _)))
 have HWr:=hid (fun pv pbase W (k : Below w.heap.size w W) hck hf hm hg hp=>write_any c vs pv pbase W (h.below k (Nat.le_refl _)) hck hf hm hg hp)
 obtain ⟨pv,fv,mv,rfl,hp,hf,hm⟩:=h
 have HP:=hid (fun W (k : Below w.heap.size w W)=>L3.put_any c.pool pv W (hk.t3.below k hk.t3.size) (hp.below k (Nat.le_refl _)) hk.ps)
 obtain ⟨pa,pc,rfl⟩:=hp.len
 obtain ⟨fa,fc,rfl⟩:=hf.len
 obtain ⟨ma2,mc,rfl⟩:=hm.len
 unfold EnPost
 unfold L3.PutPost at HP
 obtain ⟨B,hB⟩ : ∃ B,B = Cf.clB c:=⟨_,rfl⟩
 rw [← hB] at HWr ⊢
 clear hk hp hf hm hB
 by_cases hlen : 65536 < B.length
 ·have hd : decide (65536 < (B.length : Int)) = true:=by simp;omega
  have HLn:=hid hlen
  clear hlen
  go_enter Tryz.func15,Tryz.ntmps15
  go_wp2_with (first|(go_at_call 17;refine (HC.out _ BLw).mono ?_;rintro e w1 ⟨er,hR,rfl,hb1⟩;obtain ⟨bC,hzC,B1⟩:=belows1 hb1;have HR:=hid hR;obtain ⟨q0,q1,q2,q3,q4,q5,q6,q7⟩:=bC.cells8;have BC:=hid bC;clear hb1 bC;by_cases hz : er = 0;all_goals (first|(subst hz;clear hR)|(have hdd : (er != 0) = true:=(by simpa using hz);have HZ:=hid hz;clear hz hR)))|(go_at_call 44;refine (HP.out _ B1).mono ?_;rintro e w2 ⟨pk,hck,-,h2,hb2⟩;obtain rfl:=hck.det (Cf.cl_sizes HR.out).2.2.1;obtain ⟨v2,rfl,ho2⟩:=h2 rfl;obtain ⟨a2,k2,c2,rfl⟩:=own_form3 ho2;have HO2:=hid ho2;have B2:=belows B1 hb2 B1.size;have bC:=BC.out.below hb2 BC.out.sz;obtain ⟨q0,q1,q2,q3,q4,q5,q6,q7⟩:=bC.cells8;clear hck h2 ho2 hb2 bC)|(go_at_call 45;refine (HWr.out _ _ _ B2 (Cf.cl_sizes HR.out).2.2.1 (Cf.cl_sizes HR.out).1 (Cf.cl_sizes HR.out).2.1 (Cf.cl_sizes HR.out).2.2.2 HO2.out).mono ?_;rintro e w3 ⟨v3,rfl,ho3,hb3⟩;obtain ⟨a3,c3,rfl⟩:=L3.own_form ho3;have HO3:=hid ho3;have B3:=belows B2 hb3 B2.size;clear ho3 hb3))
  ·go_ret2
   exact ⟨0,HR.out,fun e=>absurd rfl e,fun _=>⟨fun _=>rfl,fun e=>absurd HLn.out (by omega)⟩,B3⟩
  ·go_ret2
   exact ⟨er,HR.out,fun _=>rfl,fun e=>absurd e HZ.out,B1⟩
 ·have hd : decide (65536 < (B.length : Int)) = false:=by simp;omega
  have HLn:=hid hlen
  clear hlen
  go_enter Tryz.func15,Tryz.ntmps15
  go_wp2_with (first|(go_at_call 17;refine (HC.out _ BLw).mono ?_;rintro e w1 ⟨er,hR,rfl,hb1⟩;obtain ⟨bC,hzC,B1⟩:=belows1 hb1;have HR:=hid hR;obtain ⟨q0,q1,q2,q3,q4,q5,q6,q7⟩:=bC.cells8;have BC:=hid bC;clear hb1 bC;by_cases hz : er = 0;all_goals (first|(subst hz;clear hR)|(have hdd : (er != 0) = true:=(by simpa using hz);have HZ:=hid hz;clear hz hR)))|(go_at_call 44;refine (HP.out _ B1).mono ?_;rintro e w2 ⟨pk,hck,-,h2,hb2⟩;obtain rfl:=hck.det (Cf.cl_sizes HR.out).2.2.1;obtain ⟨v2,rfl,ho2⟩:=h2 rfl;obtain ⟨a2,k2,c2,rfl⟩:=own_form3 ho2;have HO2:=hid ho2;have B2:=belows B1 hb2 B1.size;have bC:=BC.out.below hb2 BC.out.sz;obtain ⟨q0,q1,q2,q3,q4,q5,q6,q7⟩:=bC.cells8;clear hck h2 ho2 hb2 bC)|(go_at_call 45;refine (HWr.out _ _ _ B2 (Cf.cl_sizes HR.out).2.2.1 (Cf.cl_sizes HR.out).1 (Cf.cl_sizes HR.out).2.1 (Cf.cl_sizes HR.out).2.2.2 HO2.out).mono ?_;rintro e w3 ⟨v3,rfl,ho3,hb3⟩;obtain ⟨a3,c3,rfl⟩:=L3.own_form ho3;have HO3:=hid ho3;have B3:=belows B2 hb3 B2.size;clear ho3 hb3))
  ·go_ret2
   exact ⟨0,HR.out,fun e=>absurd rfl e,fun _=>⟨fun e=>absurd e HLn.out,fun _=>⟨_,rfl,L3.own_mono HO3.out B2.size⟩⟩,B3⟩
  ·go_ret2
   exact ⟨er,HR.out,fun _=>rfl,fun e=>absurd e HZ.out,B1⟩
end Go.Proofs.YtnojgiflgmnjlaaGreatDoor
namespace Go.Proofs.YtnojgiflgmnjlaaGreatDoor
open Go.RowKit
theorem isS_low {size lo pb : Nat} {w W X : World} {v : Value} {n : Nat} {xs : List Value} (h : Kit.IsS size w v n xs) (hl : w.heap.size = lo) (hb : Below w.heap.size w W) (k : Kx lo pb W X) : Kit.IsS size X v n xs:=by
 obtain ⟨h1,h2,h3⟩:=h
 refine ⟨h1,h2,?_⟩
 rcases h3 with h3|⟨b,o,cap,hv,hc,hlt,hx⟩
 ·exact .inl h3
 ·refine .inr ⟨b,o,cap,hv,hc,Nat.lt_of_lt_of_le hlt (Nat.le_trans hb.size k.1),fun i u hu=>?_⟩
  have e : X.heap[b]? = w.heap[b]?:=(k.2 b (Nat.lt_of_lt_of_le hlt hb.size) (.inl (by omega))).trans (hb.block b hlt)
  exact (World.cell?_of_block e).trans (hx i u hu)
theorem Bd.start {w W : World} {pb cap : Nat} {a : Option Addr} {l : List L3.Cp.C} (hS : Kit.IsS 5 w (.slice a l.length cap) l.length (l.flatMap L3.cL)) (hz : PoolSz l) (hb : Below w.heap.size w W) (hx : L3.BX W pb #[.slice a l.length cap,.int .i64 0] 95) (hp : w.heap.size ≤ pb) : Bd W w.heap.size pb l 0 :=
 ⟨⟨_,hx,fun _ k=>isS_low hS rfl hb k⟩,hz,hp⟩
theorem Bd.set {w : World} {lo pb : Nat} {l : List L3.Cp.C} {er : Int} (h : Bd w lo pb l er) {r : Nat} (h1 : lo ≤ r) (h2 : r < pb) (j : Nat) (u : Value) : Bd (w.setCell ⟨r,j,none⟩ u) lo pb l er:=by
 obtain ⟨v,hx,hs⟩:=h.box
 exact ⟨⟨v,L3.BX.grown (show L3.BX w pb _ _ from hx) (L3.set_grown w r j u) (fun e=>by have:=Option.some.inj e;omega),fun X k=>hs X (((Kx.refl _ _ _).set ⟨h1,by omega⟩ u).trans k)⟩,h.sz,h.lo⟩
theorem BX.al {w : World} {B : Nat} {cs : Array Value} {T : TypeId} (h : L3.BX w B cs T) (o : Obj) : L3.BX (w.alloc o) B cs T:=h.below (n:=w.heap.size) ((Below.refl _ _).alloc (Nat.le_refl _) _) h.sz
theorem put7 {W : World} {b : Nat} {cs : Array Value} {T : TypeId} (h : L3.BX W b cs T) (hs : cs.size = 7) (a0 a1 a2 a3 a4 a5 a6 : Value) :
  L3.BX (((((((W.setCell ⟨b,0,none⟩ a0).setCell ⟨b,1,none⟩ a1).setCell ⟨b,2,none⟩ a2).setCell ⟨b,3,none⟩ a3).setCell ⟨b,4,none⟩ a4).setCell ⟨b,5,none⟩ a5).setCell ⟨b,6,none⟩ a6) b #[a0,a1,a2,a3,a4,a5,a6] T:=by
 obtain ⟨L⟩:=cs
 match L,hs with
 | [_,_,_,_,_,_,_],_ =>
  have h9:=(((((((h.set 0 a0).set 1 a1).set 2 a2).set 3 a3).set 4 a4).set 5 a5).set 6 a6)
  simp only [List.setIfInBounds_toArray,List.set_cons_zero,List.set_cons_succ] at h9
  exact h9
theorem put8 {W : World} {b : Nat} {cs : Array Value} {T : TypeId} (h : L3.BX W b cs T) (hs : cs.size = 8) (a0 a1 a2 a3 a4 a5 a6 a7 : Value) :
  L3.BX ((((((((W.setCell ⟨b,0,none⟩ a0).setCell ⟨b,1,none⟩ a1).setCell ⟨b,2,none⟩ a2).setCell ⟨b,3,none⟩ a3).setCell ⟨b,4,none⟩ a4).setCell ⟨b,5,none⟩ a5).setCell ⟨b,6,none⟩ a6).setCell ⟨b,7,none⟩ a7) b #[a0,a1,a2,a3,a4,a5,a6,a7] T:=by
 obtain ⟨L⟩:=cs
 match L,hs with
 | [_,_,_,_,_,_,_,_],_ =>
  have h9:=((((((((h.set 0 a0).set 1 a1).set 2 a2).set 3 a3).set 4 a4).set 5 a5).set 6 a6).set 7 a7)
  simp only [List.setIfInBounds_toArray,List.set_cons_zero,List.set_cons_succ] at h9
  exact h9
theorem grown7 (W : World) (b : Nat) (a0 a1 a2 a3 a4 a5 a6 : Value) :
  W.grownBy (((((((W.setCell ⟨b,0,none⟩ a0).setCell ⟨b,1,none⟩ a1).setCell ⟨b,2,none⟩ a2).setCell ⟨b,3,none⟩ a3).setCell ⟨b,4,none⟩ a4).setCell ⟨b,5,none⟩ a5).setCell ⟨b,6,none⟩ a6) (some b) :=
 L3.grown_trans (L3.grown_trans (L3.grown_trans (L3.grown_trans (L3.grown_trans (L3.grown_trans (L3.set_grown _ _ _ _) (L3.set_grown _ _ _ _)) (L3.set_grown _ _ _ _)) (L3.set_grown _ _ _ _)) (L3.set_grown _ _ _ _)) (L3.set_grown _ _ _ _)) (L3.set_grown _ _ _ _)
theorem grown8 (W : World) (b : Nat) (a0 a1 a2 a3 a4 a5 a6 a7 : Value) :
  W.grownBy ((((((((W.setCell ⟨b,0,none⟩ a0).setCell ⟨b,1,none⟩ a1).setCell ⟨b,2,none⟩ a2).setCell ⟨b,3,none⟩ a3).setCell ⟨b,4,none⟩ a4).setCell ⟨b,5,none⟩ a5).setCell ⟨b,6,none⟩ a6).setCell ⟨b,7,none⟩ a7) (some b) :=
 L3.grown_trans (grown7 W b a0 a1 a2 a3 a4 a5 a6) (L3.set_grown _ _ _ _)
theorem Bd.grown {w W : World} {lo pb r : Nat} {l : List L3.Cp.C} {er : Int} (h : Bd w lo pb l er) (hg : w.grownBy W (some r)) (h1 : lo ≤ r) (h2 : r < pb) : Bd W lo pb l er:=by
 obtain ⟨v,hx,hs⟩:=h.box
 exact ⟨⟨v,L3.BX.grown (show L3.BX w pb _ _ from hx) hg (fun e=>by have:=Option.some.inj e;omega),fun X k=>hs X ((Kx.grown hg h1 (by omega)).trans k)⟩,h.sz,h.lo⟩
theorem five {w : World} {c0 c1 c2 c3 c4 : Array Value} {T0 T1 T2 T3 T4 : TypeId} {W : World} (h : W = ((((w.alloc (.cells c0 T0)).alloc (.cells c1 T1)).alloc (.cells c2 T2)).alloc (.cells c3 T3)).alloc (.cells c4 T4)) :
  L3.BX W w.heap.size c0 T0 ∧ L3.BX W (w.heap.size + 1) c1 T1 ∧ L3.BX W (w.heap.size + 1 + 1) c2 T2 ∧ L3.BX W (w.heap.size + 1 + 1 + 1) c3 T3 ∧ L3.BX W (w.heap.size + 1 + 1 + 1 + 1) c4 T4 ∧ W.heap.size = w.heap.size + 5 ∧ Below w.heap.size w W:=by
 subst h
 have b0:=BX.al (BX.al (BX.al (BX.al (L3.BX.new w c0 T0) (.cells c1 T1)) (.cells c2 T2)) (.cells c3 T3)) (.cells c4 T4)
 have b1:=BX.al (BX.al (BX.al (L3.BX.new (w.alloc (.cells c0 T0)) c1 T1) (.cells c2 T2)) (.cells c3 T3)) (.cells c4 T4)
 have b2:=BX.al (BX.al (L3.BX.new ((w.alloc (.cells c0 T0)).alloc (.cells c1 T1)) c2 T2) (.cells c3 T3)) (.cells c4 T4)
 have b3:=BX.al (L3.BX.new (((w.alloc (.cells c0 T0)).alloc (.cells c1 T1)).alloc (.cells c2 T2)) c3 T3) (.cells c4 T4)
 have b4:=L3.BX.new ((((w.alloc (.cells c0 T0)).alloc (.cells c1 T1)).alloc (.cells c2 T2)).alloc (.cells c3 T3)) c4 T4
 simp only [World.size_alloc] at b1 b2 b3 b4
 exact ⟨b0,b1,b2,b3,b4,by simp only [World.size_alloc],BLw⟩
end Go.Proofs.YtnojgiflgmnjlaaGreatDoor
namespace Go.Proofs.YtnojgiflgmnjlaaGreatDoor
open Go.RowKit
theorem bP5lt {W : World} {b : Nat} {cs : Array Value} {T : TypeId} (h : L3.BX W b cs T) : b < W.heap.size:=h.sz
theorem OMb.ren {w : World} {base : Nat} {m : Cf.Mb} {cv hv : Value} (h : OMb w base (mL m cv hv) m) (a b : Int) : OMb w base (mL { m with nm:=a,ds:=b } cv hv) { m with nm:=a,ds:=b }:=by
 obtain ⟨cv',hv',he,h⟩:=h
 obtain ⟨rfl,rfl⟩ : cv = cv' ∧ hv = hv':=by simpa [mL] using he
 exact ⟨_,_,rfl,h⟩
def NdPost (c : Cf.Cl) (m : Cf.Mb) (a b : ByteArray) (w : World) (e : Ending) (w' : World) : Prop :=
 ∃ l1 i1 e1 l2 i2 e2,AdS c.pool 0 ⟨1,a,0,0,0⟩ l1 i1 e1 ∧ AdS l1 e1 ⟨1,b,0,0,0⟩ l2 i2 e2 ∧
  ((e2 ≠ 0 ∧ e = .returned (.tuple #[K0V,mbV Cf.M0 (.slice none 0 0) (.slice none 0 0),.int .i64 e2])) ∨
   (e2 = 0 ∧ ∃ vs' cv' hv',e = .returned (.tuple #[.agg vs',mbV { m with nm:=(i1 : Nat),ds:=(i2 : Nat) } cv' hv',.int .i64 0]) ∧ OCl w' w.heap.size vs' { c with pool:=l2 } ∧ OMb w' w.heap.size (mL { m with nm:=(i1 : Nat),ds:=(i2 : Nat) } cv' hv') { m with nm:=(i1 : Nat),ds:=(i2 : Nat) } ∧ PoolSz l2 ∧ ApV vs')) ∧
  Below w.heap.size w w'
set_option maxHeartbeats 4000000 in
theorem named_any (c : Cf.Cl) (vs : Array Value) (m : Cf.Mb) (cv hv : Value) (a b : ByteArray) (w : World) (ht : L3.Tabs w) (h : ClR w vs c) (hs : Cf.Szc c) (hz : PoolSz c.pool) (hB : L3.Bs w.heap.size w cv m.code) (hH : Kit.IsS 4 w hv m.hs.length (m.hs.flatMap hL))
  (hmc : m.code.length ≤ 140737488355328) (hmh : m.hs.length * 32 ≤ 140737488355328) (ha : a.size ≤ 140737488355328) (hb : b.size ≤ 140737488355328) :
  Calls Tryz.prog 65 #[.agg vs,mbV m cv hv,.string a,.string b] w (NdPost c m a b w):=by
 have HT:=hid ht
 have HCm:=hid (fun W (k : Below w.heap.size w W)=>cloneMember_any m cv hv W ((hB.below k (Nat.le_refl _)).mono k.size) (hH.below k (Nat.le_refl _)) hmc hmh)
 obtain ⟨pv,fv,mv,rfl,hp,hf,hm⟩:=h
 obtain ⟨pa,pc,rfl⟩:=hp.len
 obtain ⟨fa,fc,rfl⟩:=hf.len
 obtain ⟨ma2,mc,rfl⟩:=hm.len
 obtain ⟨xa,xc,rfl⟩:=hB.len
 obtain ⟨ya,yc,rfl⟩:=hH.len
 have HIn:=hid (And.intro hp (And.intro hf hm))
 have HSz:=hid hs
 have HPz:=hid hz
 have HAa:=hid ha
 have HBb:=hid hb
 obtain ⟨mi,ma,P,ac,th,su,fs,ms⟩:=c
 obtain ⟨mac,mnm,mds,mst,mlc,co,hs9⟩:=m
 unfold mbV at HCm ⊢
 dsimp only at HCm HIn HSz HPz ⊢
 clear ht hp hf hm hB hH hmc hmh ha hb hs hz
 go_enter Tryz.func65,Tryz.ntmps65
 go_wp2_with fail
 obtain ⟨W1,hW1⟩ : ∃ W1,W1 = (((((w.alloc (.cells #[.int .i64 mi,.int .i64 ma,.slice pa P.length pc,.int .i64 ac,.int .i64 th,.int .i64 su,.slice fa fs.length fc,.slice ma2 ms.length mc] 26)).alloc (.cells #[.int .i64 mac,.int .i64 mnm,.int .i64 mds,.int .i64 mst,.int .i64 mlc,.slice xa co.length xc,.slice ya hs9.length yc] 42)).alloc (.cells #[.int .i64 0,.int .i64 0,.slice none 0 0,.int .i64 0,.int .i64 0,.int .i64 0,.slice none 0 0,.slice none 0 0] 26)).alloc (.cells #[.int .i64 0,.int .i64 0,.int .i64 0,.int .i64 0,.int .i64 0,.slice none 0 0,.slice none 0 0] 42)).alloc (.cells #[.slice pa P.length pc,.int .i64 0] 95)):=⟨_,rfl⟩
 obtain ⟨bC,bM,bR,bS,bP,hzW,B1⟩:=five hW1
 rw [← hW1]
 have hBd:=Bd.start HIn.out.1 HPz.out B1 bP (by omega)
 have HB1:=hid B1
 have HBd1:=hid hBd
 have BC1:=hid bC
 have BM1:=hid bM
 have BR1:=hid bR
 have BS1:=hid bS
 have HT1:=hid (HT.out.below B1 HT.out.size)
 clear hW1 bC bM bR bS bP hBd B1
 go_wp2_with (first|(go_at_call 78;refine (HCm.out _ HB1.out).mono ?_;rintro e w2 ⟨cv2,hv2,rfl,oM,hb2⟩;obtain ⟨cv3,hv3,he3,oc,oh,hl1,hl2⟩:=oM;obtain ⟨rfl,rfl⟩ : cv2 = cv3 ∧ hv2 = hv3:=(by simpa [mL] using he3);obtain ⟨xa2,xc2,rfl⟩:=L3.own_form oc;obtain ⟨ya2,yc2,rfl⟩:=L3.own_form oh;have OM2:=hid (show OMb w2 W1.heap.size (mL ⟨mac,mnm,mds,mst,mlc,co,hs9⟩ (.slice xa2 co.length xc2) (.slice ya2 hs9.length yc2)) ⟨mac,mnm,mds,mst,mlc,co,hs9⟩ from ⟨_,_,rfl,oc,oh,hl1,hl2⟩);have HB2:=hid hb2;have bM:=BM1.out.below hb2 BM1.out.sz;have m0:=bM.cell 0;have fm0:=bM.frozen 0;have m1:=bM.cell 1;have fm1:=bM.frozen 1;have m2:=bM.cell 2;have fm2:=bM.frozen 2;have m3:=bM.cell 3;have fm3:=bM.frozen 3;have m4:=bM.cell 4;have fm4:=bM.frozen 4;have m5:=bM.cell 5;have fm5:=bM.frozen 5;have m6:=bM.cell 6;have fm6:=bM.frozen 6;simp at m0 m1 m2 m3 m4 m5 m6;clear bM hb2 oc oh he3)|(go_at_call 69;have _g:=HB2;(fail_if_success (have _g:=HS1));have g2:=grown7 w2 (w.heap.size + 1) (.int .i64 mac) (.int .i64 mnm) (.int .i64 mds) (.int .i64 mst) (.int .i64 mlc) (.slice xa2 co.length xc2) (.slice ya2 hs9.length yc2);have bM:=put7 (BM1.out.below HB2.out BM1.out.sz) rfl (.int .i64 mac) (.int .i64 mnm) (.int .i64 mds) (.int .i64 mst) (.int .i64 mlc) (.slice xa2 co.length xc2) (.slice ya2 hs9.length yc2);obtain ⟨W2,hW2⟩ : ∃ W,W = (((((((w2.setCell ⟨w.heap.size + 1,0,none⟩ (.int .i64 mac)).setCell ⟨w.heap.size + 1,1,none⟩ (.int .i64 mnm)).setCell ⟨w.heap.size + 1,2,none⟩ (.int .i64 mds)).setCell ⟨w.heap.size + 1,3,none⟩ (.int .i64 mst)).setCell ⟨w.heap.size + 1,4,none⟩ (.int .i64 mlc)).setCell ⟨w.heap.size + 1,5,none⟩ (.slice xa2 co.length xc2)).setCell ⟨w.heap.size + 1,6,none⟩ (.slice ya2 hs9.length yc2)):=⟨_,rfl⟩;rw [← hW2] at g2 bM ⊢;have bC:=(BC1.out.below HB2.out BC1.out.sz).grown g2 (fun e=>by (have:=Option.some.inj e;omega));have bR:=(BR1.out.below HB2.out BR1.out.sz).grown g2 (fun e=>by (have:=Option.some.inj e;omega));have bS:=(BS1.out.below HB2.out BS1.out.sz).grown g2 (fun e=>by (have:=Option.some.inj e;omega));have hBd:=(HBd1.out.below HB2.out).grown g2 (by omega) (by omega);have oM:=OM2.out.grown g2 (by omega);have B2 : Below w.heap.size w W2:=nwB (belows HB1.out HB2.out HB1.out.size) g2 ⟨by omega,by (have:=HB1.out.size;have:=HB2.out.size;omega)⟩;refine (btext_any w.heap.size (w.heap.size + 1 + 1 + 1 + 1) P 0 a W2 (HT.out.below B2 HT.out.size) hBd HAa.out).mono ?_;rintro e w3 ⟨l1,i1,e1,hS1,rfl,hg3,hB3⟩;have HS1:=hid hS1;have HBd3:=hid hB3;have bC:=bC.grown hg3 (fun e=>by (have:=Option.some.inj e;omega));have bM:=bM.grown hg3 (fun e=>by (have:=Option.some.inj e;omega));have bR:=bR.grown hg3 (fun e=>by (have:=Option.some.inj e;omega));have bS:=bS.grown hg3 (fun e=>by (have:=Option.some.inj e;omega));have oM:=oM.grown hg3 (by omega);have B3 : Below w.heap.size w w3:=nwB B2 hg3 ⟨by omega,B2.size⟩;have HB3:=hid B3;have BC3:=hid bC;have BM3:=hid bM;have BR3:=hid bR;have BS3:=hid bS;have OM3:=hid oM;clear m0 m1 m2 m3 m4 m5 m6 fm0 fm1 fm2 fm3 fm4 fm5 fm6;have m1:=bM.cell 1;have fm1:=bM.frozen 1;simp at m1;clear hW2 g2 bM bC bR bS hBd oM B2 B3 hS1 hg3 hB3)|(go_at_call 69;have _g:=HS1;(fail_if_success (have _g:=HS2));have g2:=L3.set_grown w3 (w.heap.size + 1) 1 (.int .i64 (i1 : Nat));have bM:=BM3.out.set 1 (.int .i64 (i1 : Nat));obtain ⟨W2,hW2⟩ : ∃ W,W = w3.setCell ⟨w.heap.size + 1,1,none⟩ (.int .i64 (i1 : Nat)):=⟨_,rfl⟩;rw [← hW2] at g2 bM ⊢;have bC:=BC3.out.grown g2 (fun e=>by (have:=Option.some.inj e;omega));have bR:=BR3.out.grown g2 (fun e=>by (have:=Option.some.inj e;omega));have bS:=BS3.out.grown g2 (fun e=>by (have:=Option.some.inj e;omega));have hBd:=HBd3.out.grown g2 (by omega) (by omega);have oM:=OM3.out.grown g2 (by omega);have B2 : Below w.heap.size w W2:=nwB HB3.out g2 ⟨by omega,HB3.out.size⟩;refine (btext_any w.heap.size (w.heap.size + 1 + 1 + 1 + 1) l1 e1 b W2 (HT.out.below B2 HT.out.size) hBd HBb.out).mono ?_;rintro e w4 ⟨l2,i2,e2,hS2,rfl,hg4,hB4⟩;have HS2:=hid hS2;have HBd4:=hid hB4;have bC:=bC.grown hg4 (fun e=>by (have:=Option.some.inj e;omega));have bM:=bM.grown hg4 (fun e=>by (have:=Option.some.inj e;omega));have bR:=bR.grown hg4 (fun e=>by (have:=Option.some.inj e;omega));have bS:=bS.grown hg4 (fun e=>by (have:=Option.some.inj e;omega));have oM:=oM.grown hg4 (by omega);have B4 : Below w.heap.size w w4:=nwB B2 hg4 ⟨by omega,B2.size⟩;have HB4:=hid B4;have BC4:=hid bC;have BM4:=hid bM;have BR4:=hid bR;have BS4:=hid bS;have OM4:=hid oM;clear m1 fm1;have m2:=bM.cell 2;have fm2:=bM.frozen 2;simp at m2;obtain ⟨ba,bcap,d0,d1,hSt⟩:=bd_cells hB4;have HSt:=hid hSt;clear hSt;have c2:=bC.cell 2;have fc2:=bC.frozen 2;simp at c2;clear hW2 g2 bM bC bR bS hBd oM B2 B4 hS2 hg4 hB4;by_cases hz : e2 = 0;all_goals (first|subst hz|(have hdd : (e2 != 0) = true:=(by simpa using hz);have HZ:=hid hz;clear hz))))
 ·have g5:=L3.set_grown w4 (w.heap.size + 1) 2 (.int .i64 (i2 : Nat))
  have g6:=L3.set_grown (w4.setCell ⟨w.heap.size + 1,2,none⟩ (.int .i64 (i2 : Nat))) w.heap.size 2 (.slice ba l2.length bcap)
  have bC:=(BC4.out.grown g5 (fun e=>by (have:=Option.some.inj e;omega))).set 2 (.slice ba l2.length bcap)
  have bM:=(BM4.out.set 2 (.int .i64 (i2 : Nat))).grown g6 (fun e=>by (have:=Option.some.inj e;omega))
  have bR:=(BR4.out.grown g5 (fun e=>by (have:=Option.some.inj e;omega))).grown g6 (fun e=>by (have:=Option.some.inj e;omega))
  have bS:=(BS4.out.grown g5 (fun e=>by (have:=Option.some.inj e;omega))).grown g6 (fun e=>by (have:=Option.some.inj e;omega))
  have oM:=(OM4.out.grown g5 (by omega)).grown g6 (by omega)
  have B5 : Below w.heap.size w ((w4.setCell ⟨w.heap.size + 1,2,none⟩ (.int .i64 (i2 : Nat))).setCell ⟨w.heap.size,2,none⟩ (.slice ba l2.length bcap)):=nwB (nwB HB4.out g5 ⟨by omega,HB4.out.size⟩) g6 ⟨Nat.le_refl _,by rw [World.size_setCell];exact HB4.out.size⟩
  have hP5:=HSt.out _ (((Kx.refl w.heap.size (w.heap.size + 1 + 1 + 1 + 1) w4).set ⟨by omega,by omega⟩ (.int .i64 (i2 : Nat)) (r:=w.heap.size + 1) (j:=2)).set ⟨Nat.le_refl _,by omega⟩ (.slice ba l2.length bcap) (r:=w.heap.size) (j:=2))
  obtain ⟨W5,hW5⟩ : ∃ W,W = (w4.setCell ⟨w.heap.size + 1,2,none⟩ (.int .i64 (i2 : Nat))).setCell ⟨w.heap.size,2,none⟩ (.slice ba l2.length bcap):=⟨_,rfl⟩
  rw [← hW5] at bC bM bR bS oM B5 hP5 ⊢
  simp only [List.setIfInBounds_toArray,List.set_cons_zero,List.set_cons_succ] at bC bM
  have HR5:=hid (show ClR W5 #[.int .i64 mi,.int .i64 ma,.slice ba l2.length bcap,.int .i64 ac,.int .i64 th,.int .i64 su,.slice fa fs.length fc,.slice ma2 ms.length mc] ⟨mi,ma,l2,ac,th,su,fs,ms⟩ from ⟨_,_,_,rfl,hP5,HIn.out.2.1.below B5 (Nat.le_refl _),HIn.out.2.2.below B5 (Nat.le_refl _)⟩)
  have HSz5:=hid (show Cf.Szc ⟨mi,ma,l2,ac,th,su,fs,ms⟩ from ⟨HBd4.out.sz.1,HSz.out.2⟩)
  have HCl:=hid (fun W (k : Below W5.heap.size W5 W)=>clone_any ⟨mi,ma,l2,ac,th,su,fs,ms⟩ _ W (HR5.out.below k (Nat.le_refl _)) HSz5.out)
  have cfC:=fun (u : Value) (w : World)=>(show (callFunc 33 #[u]).run Tryz.prog w = .ok (.enter 33 #[u]) w by kernel_rfl)
  have BM5:=hid bM
  have BR5:=hid bR
  have BS5:=hid bS
  have OM5:=hid oM
  have HB5:=hid B5
  have hzb5:=bP5lt bS
  obtain ⟨c0,c1,c2,c3,c4,c5,c6,c7⟩:=bC.cells8
  obtain ⟨n0,n1,n2,n3,n4,n5,n6⟩:=bM.cells7
  clear hW5 bC bM bR bS oM B5 hP5 g5 g6 d0 d1 m2 fm2
  go_region_law (refine Kit.step_call1 rfl 33 (.tmp 33) 26 rfl _ rfl (cfC _ _) _ (HCl.out _ BLw) ?_;rintro e w9 ⟨vs9,rfl,oC,hap,hb9⟩;refine ⟨_,rfl,?_⟩;have B9 : Below W5.heap.size W5 w9:=(by first|exact hb9|exact below_undrew hb9);have oC:=hid (oC.mono (base':=W5.heap.size) (by simp));obtain ⟨pv9,fv9,mv9,rfl,o1,o2,o3⟩:=oC.out;obtain ⟨pa9,pc9,rfl⟩:=L3.own_form o1;obtain ⟨fa9,fc9,rfl⟩:=OMs.form o2;obtain ⟨ma9,mc9,rfl⟩:=OMs.form o3;clear o1 o2 o3;have bM9:=BM5.out.below B9 BM5.out.sz;have bR9:=BR5.out.below B9 BR5.out.sz;have bS9:=BS5.out.below B9 BS5.out.sz;clear n0 n1 n2 n3 n4 n5 n6;obtain ⟨n0,n1,n2,n3,n4,n5,n6⟩:=bM9.cells7;have r0:=bR9.cell 0;have fr0:=bR9.frozen 0;have r1:=bR9.cell 1;have fr1:=bR9.frozen 1;have r2:=bR9.cell 2;have fr2:=bR9.frozen 2;have r3:=bR9.cell 3;have fr3:=bR9.frozen 3;have r4:=bR9.cell 4;have fr4:=bR9.frozen 4;have r5:=bR9.cell 5;have fr5:=bR9.frozen 5;have r6:=bR9.cell 6;have fr6:=bR9.frozen 6;have r7:=bR9.cell 7;have fr7:=bR9.frozen 7;simp at r0 r1 r2 r3 r4 r5 r6 r7;have s0:=bS9.cell 0;have fs0:=bS9.frozen 0;have s1:=bS9.cell 1;have fs1:=bS9.frozen 1;have s2:=bS9.cell 2;have fs2:=bS9.frozen 2;have s3:=bS9.cell 3;have fs3:=bS9.frozen 3;have s4:=bS9.cell 4;have fs4:=bS9.frozen 4;have s5:=bS9.cell 5;have fs5:=bS9.frozen 5;have s6:=bS9.cell 6;have fs6:=bS9.frozen 6;simp at s0 s1 s2 s3 s4 s5 s6)
  all_goals
   have g8:=grown8 w9 (w.heap.size + 1 + 1) (.int .i64 mi) (.int .i64 ma) (.slice pa9 l2.length pc9) (.int .i64 ac) (.int .i64 th) (.int .i64 su) (.slice fa9 fs.length fc9) (.slice ma9 ms.length mc9)
   have g7:=grown7 ((((((((w9.setCell ⟨w.heap.size + 1 + 1,0,none⟩ (.int .i64 mi)).setCell ⟨w.heap.size + 1 + 1,1,none⟩ (.int .i64 ma)).setCell ⟨w.heap.size + 1 + 1,2,none⟩ (.slice pa9 l2.length pc9)).setCell ⟨w.heap.size + 1 + 1,3,none⟩ (.int .i64 ac)).setCell ⟨w.heap.size + 1 + 1,4,none⟩ (.int .i64 th)).setCell ⟨w.heap.size + 1 + 1,5,none⟩ (.int .i64 su)).setCell ⟨w.heap.size + 1 + 1,6,none⟩ (.slice fa9 fs.length fc9)).setCell ⟨w.heap.size + 1 + 1,7,none⟩ (.slice ma9 ms.length mc9)) (w.heap.size + 1 + 1 + 1) (.int .i64 mac) (.int .i64 (i1 : Nat)) (.int .i64 (i2 : Nat)) (.int .i64 mst) (.int .i64 mlc) (.slice xa2 co.length xc2) (.slice ya2 hs9.length yc2)
   have bR:=(put8 bR9 rfl (.int .i64 mi) (.int .i64 ma) (.slice pa9 l2.length pc9) (.int .i64 ac) (.int .i64 th) (.int .i64 su) (.slice fa9 fs.length fc9) (.slice ma9 ms.length mc9)).grown g7 (fun e=>by (have:=Option.some.inj e;omega))
   have bS:=put7 (bS9.grown g8 (fun e=>by (have:=Option.some.inj e;omega))) rfl (.int .i64 mac) (.int .i64 (i1 : Nat)) (.int .i64 (i2 : Nat)) (.int .i64 mst) (.int .i64 mlc) (.slice xa2 co.length xc2) (.slice ya2 hs9.length yc2)
   have oC:=((oC.out.grown g8 (by omega)).grown g7 (by omega)).mono (base':=w.heap.size) (by omega)
   have oM:=((((OM5.out.below B9 (Nat.le_refl _)).grown g8 (by omega)).grown g7 (by omega)).mono (base':=w.heap.size) (by omega)).ren (i1 : Nat) (i2 : Nat)
   have B10:=nwB (nwB (belows HB5.out B9 HB5.out.size) g8 ⟨by omega,by (have:=HB5.out.size;have:=B9.size;omega)⟩) g7 ⟨by omega,by (have:=HB5.out.size;have:=B9.size;have:=g8.size;omega)⟩
   clear r0 r1 r2 r3 r4 r5 r6 r7 s0 s1 s2 s3 s4 s5 s6 n0 n1 n2 n3 n4 n5 n6 fr0 fr1 fr2 fr3 fr4 fr5 fr6 fr7 fs0 fs1 fs2 fs3 fs4 fs5 fs6
   obtain ⟨W10,hW10⟩ : ∃ W,W = (((((((((((((((w9.setCell ⟨w.heap.size + 1 + 1,0,none⟩ (.int .i64 mi)).setCell ⟨w.heap.size + 1 + 1,1,none⟩ (.int .i64 ma)).setCell ⟨w.heap.size + 1 + 1,2,none⟩ (.slice pa9 l2.length pc9)).setCell ⟨w.heap.size + 1 + 1,3,none⟩ (.int .i64 ac)).setCell ⟨w.heap.size + 1 + 1,4,none⟩ (.int .i64 th)).setCell ⟨w.heap.size + 1 + 1,5,none⟩ (.int .i64 su)).setCell ⟨w.heap.size + 1 + 1,6,none⟩ (.slice fa9 fs.length fc9)).setCell ⟨w.heap.size + 1 + 1,7,none⟩ (.slice ma9 ms.length mc9)).setCell ⟨w.heap.size + 1 + 1 + 1,0,none⟩ (.int .i64 mac)).setCell ⟨w.heap.size + 1 + 1 + 1,1,none⟩ (.int .i64 (i1 : Nat))).setCell ⟨w.heap.size + 1 + 1 + 1,2,none⟩ (.int .i64 (i2 : Nat))).setCell ⟨w.heap.size + 1 + 1 + 1,3,none⟩ (.int .i64 mst)).setCell ⟨w.heap.size + 1 + 1 + 1,4,none⟩ (.int .i64 mlc)).setCell ⟨w.heap.size + 1 + 1 + 1,5,none⟩ (.slice xa2 co.length xc2)).setCell ⟨w.heap.size + 1 + 1 + 1,6,none⟩ (.slice ya2 hs9.length yc2)):=⟨_,rfl⟩
   rw [← hW10] at bR bS oC oM B10 ⊢
   clear hW10 g8 g7
   obtain ⟨r0,r1,r2,r3,r4,r5,r6,r7⟩:=bR.cells8
   obtain ⟨s0,s1,s2,s3,s4,s5,s6⟩:=bS.cells7
   go_wp2
   exact bodyPost_ret (v:=.tuple #[.agg #[.int .i64 mi,.int .i64 ma,.slice pa9 l2.length pc9,.int .i64 ac,.int .i64 th,.int .i64 su,.slice fa9 fs.length fc9,.slice ma9 ms.length mc9],.agg #[.int .i64 mac,.int .i64 (i1 : Nat),.int .i64 (i2 : Nat),.int .i64 mst,.int .i64 mlc,.slice xa2 co.length xc2,.slice ya2 hs9.length yc2],.int .i64 0]) (by simp [results,Tryz.results65,go_sem,r0,r1,r2,r3,r4,r5,r6,r7,s0,s1,s2,s3,s4,s5,s6]) rfl (by unfold NdPost;exact ⟨l1,i1,e1,l2,i2,0,HS1.out,HS2.out,.inr ⟨rfl,_,_,_,rfl,oC,oM,HBd4.out.sz,hap⟩,B10⟩)
 ·have g5:=L3.set_grown w4 (w.heap.size + 1) 2 (.int .i64 (i2 : Nat))
  have bR:=BR4.out.grown g5 (fun e=>by (have:=Option.some.inj e;omega))
  have bS:=BS4.out.grown g5 (fun e=>by (have:=Option.some.inj e;omega))
  have B5 : Below w.heap.size w (w4.setCell ⟨w.heap.size + 1,2,none⟩ (.int .i64 (i2 : Nat))):=nwB HB4.out g5 ⟨by omega,HB4.out.size⟩
  have d15:=(World.cell?_of_block (a:=⟨w.heap.size + 1 + 1 + 1 + 1,1,none⟩) (g5.block (w.heap.size + 1 + 1 + 1 + 1) HBd4.out.lt (fun e=>by (have:=Option.some.inj e;omega)))).trans d1
  obtain ⟨W5,hW5⟩ : ∃ W,W = w4.setCell ⟨w.heap.size + 1,2,none⟩ (.int .i64 (i2 : Nat)):=⟨_,rfl⟩
  rw [← hW5] at bR bS B5 d15 ⊢
  have r0:=bR.cell 0;have fr0:=bR.frozen 0;have r1:=bR.cell 1;have fr1:=bR.frozen 1;have r2:=bR.cell 2;have fr2:=bR.frozen 2;have r3:=bR.cell 3;have fr3:=bR.frozen 3;have r4:=bR.cell 4;have fr4:=bR.frozen 4;have r5:=bR.cell 5;have fr5:=bR.frozen 5;have r6:=bR.cell 6;have fr6:=bR.frozen 6;have r7:=bR.cell 7;have fr7:=bR.frozen 7;simp at r0 r1 r2 r3 r4 r5 r6 r7
  have s0:=bS.cell 0;have fs0:=bS.frozen 0;have s1:=bS.cell 1;have fs1:=bS.frozen 1;have s2:=bS.cell 2;have fs2:=bS.frozen 2;have s3:=bS.cell 3;have fs3:=bS.frozen 3;have s4:=bS.cell 4;have fs4:=bS.frozen 4;have s5:=bS.cell 5;have fs5:=bS.frozen 5;have s6:=bS.cell 6;have fs6:=bS.frozen 6;simp at s0 s1 s2 s3 s4 s5 s6
  clear hW5 g5 d0 d1 m2 fm2
  go_region
  all_goals
   have g8:=grown8 W5 (w.heap.size + 1 + 1) (.int .i64 0) (.int .i64 0) (.slice none 0 0) (.int .i64 0) (.int .i64 0) (.int .i64 0) (.slice none 0 0) (.slice none 0 0)
   have g7:=grown7 ((((((((W5.setCell ⟨w.heap.size + 1 + 1,0,none⟩ (.int .i64 0)).setCell ⟨w.heap.size + 1 + 1,1,none⟩ (.int .i64 0)).setCell ⟨w.heap.size + 1 + 1,2,none⟩ (.slice none 0 0)).setCell ⟨w.heap.size + 1 + 1,3,none⟩ (.int .i64 0)).setCell ⟨w.heap.size + 1 + 1,4,none⟩ (.int .i64 0)).setCell ⟨w.heap.size + 1 + 1,5,none⟩ (.int .i64 0)).setCell ⟨w.heap.size + 1 + 1,6,none⟩ (.slice none 0 0)).setCell ⟨w.heap.size + 1 + 1,7,none⟩ (.slice none 0 0)) (w.heap.size + 1 + 1 + 1) (.int .i64 0) (.int .i64 0) (.int .i64 0) (.int .i64 0) (.int .i64 0) (.slice none 0 0) (.slice none 0 0)
   have bR:=(put8 bR rfl (.int .i64 0) (.int .i64 0) (.slice none 0 0) (.int .i64 0) (.int .i64 0) (.int .i64 0) (.slice none 0 0) (.slice none 0 0)).grown g7 (fun e=>by (have:=Option.some.inj e;omega))
   have bS:=put7 (bS.grown g8 (fun e=>by (have:=Option.some.inj e;omega))) rfl (.int .i64 0) (.int .i64 0) (.int .i64 0) (.int .i64 0) (.int .i64 0) (.slice none 0 0) (.slice none 0 0)
   have B10:=nwB (nwB B5 g8 ⟨by omega,B5.size⟩) g7 ⟨by omega,by (have:=B5.size;have:=g8.size;omega)⟩
   clear r0 r1 r2 r3 r4 r5 r6 r7 s0 s1 s2 s3 s4 s5 s6 fr0 fr1 fr2 fr3 fr4 fr5 fr6 fr7 fs0 fs1 fs2 fs3 fs4 fs5 fs6
   obtain ⟨W10,hW10⟩ : ∃ W,W = (((((((((((((((W5.setCell ⟨w.heap.size + 1 + 1,0,none⟩ (.int .i64 0)).setCell ⟨w.heap.size + 1 + 1,1,none⟩ (.int .i64 0)).setCell ⟨w.heap.size + 1 + 1,2,none⟩ (.slice none 0 0)).setCell ⟨w.heap.size + 1 + 1,3,none⟩ (.int .i64 0)).setCell ⟨w.heap.size + 1 + 1,4,none⟩ (.int .i64 0)).setCell ⟨w.heap.size + 1 + 1,5,none⟩ (.int .i64 0)).setCell ⟨w.heap.size + 1 + 1,6,none⟩ (.slice none 0 0)).setCell ⟨w.heap.size + 1 + 1,7,none⟩ (.slice none 0 0)).setCell ⟨w.heap.size + 1 + 1 + 1,0,none⟩ (.int .i64 0)).setCell ⟨w.heap.size + 1 + 1 + 1,1,none⟩ (.int .i64 0)).setCell ⟨w.heap.size + 1 + 1 + 1,2,none⟩ (.int .i64 0)).setCell ⟨w.heap.size + 1 + 1 + 1,3,none⟩ (.int .i64 0)).setCell ⟨w.heap.size + 1 + 1 + 1,4,none⟩ (.int .i64 0)).setCell ⟨w.heap.size + 1 + 1 + 1,5,none⟩ (.slice none 0 0)).setCell ⟨w.heap.size + 1 + 1 + 1,6,none⟩ (.slice none 0 0)):=⟨_,rfl⟩
   rw [← hW10] at bR bS B10 ⊢
   clear hW10 g8 g7
   obtain ⟨r0,r1,r2,r3,r4,r5,r6,r7⟩:=bR.cells8
   obtain ⟨s0,s1,s2,s3,s4,s5,s6⟩:=bS.cells7
   go_wp2
   exact bodyPost_ret (v:=.tuple #[.agg #[.int .i64 0,.int .i64 0,.slice none 0 0,.int .i64 0,.int .i64 0,.int .i64 0,.slice none 0 0,.slice none 0 0],.agg #[.int .i64 0,.int .i64 0,.int .i64 0,.int .i64 0,.int .i64 0,.slice none 0 0,.slice none 0 0],.int .i64 e2]) (by simp [results,Tryz.results65,go_sem,r0,r1,r2,r3,r4,r5,r6,r7,s0,s1,s2,s3,s4,s5,s6]) rfl (by unfold NdPost;exact ⟨l1,i1,e1,l2,i2,e2,HS1.out,HS2.out,.inl ⟨HZ.out,rfl⟩,BLw⟩)
end Go.Proofs.YtnojgiflgmnjlaaGreatDoor
namespace Go.Proofs.YtnojgiflgmnjlaaGreatDoor
open Go.RowKit
def WtPost (mk : List L3.Cp.C → Cf.Mb → Cf.Cl) (c : Cf.Cl) (m : Cf.Mb) (a b : ByteArray) (w : World) (e : Ending) (w' : World) : Prop :=
 ∃ l1 i1 e1 l2 i2 e2,AdS c.pool 0 ⟨1,a,0,0,0⟩ l1 i1 e1 ∧ AdS l1 e1 ⟨1,b,0,0,0⟩ l2 i2 e2 ∧
  ((e2 ≠ 0 ∧ e = .returned (.tuple #[K0V,.int .i64 e2])) ∨
   (e2 = 0 ∧ ((Cf.ClIs (mk l2 { m with nm:=(i1 : Nat),ds:=(i2 : Nat) }) 0 ∧ ∃ vs',e = .returned (.tuple #[.agg vs',.int .i64 0]) ∧ OCl w' w.heap.size vs' (mk l2 { m with nm:=(i1 : Nat),ds:=(i2 : Nat) }) ∧ PoolSz l2) ∨
    ∃ er,er ≠ 0 ∧ Cf.ClIs (mk l2 { m with nm:=(i1 : Nat),ds:=(i2 : Nat) }) er ∧ e = .returned (.tuple #[K0V,.int .i64 er])))) ∧
  Below w.heap.size w w'
theorem OMs.aside {w w' : World} {base base' : Nat} {v u : Value} {ms : List Cf.Mb} {n : Nat} {xs : List Value} (h : OMs w base v ms) (k : w.ownsRow base' 42 7 u n xs) (hne : ∀ k,v.ownBlock = some k → u.ownBlock ≠ some k) (hg : w.grownBy w' u.ownBlock) : OMs w' base v ms:=by
 obtain ⟨rs,h1,h2⟩:=h
 refine ⟨rs,h1.mono fun _ _ x=>x.apart k hg,⟨h2.1,?_⟩⟩
 rcases h2.2 with h3|⟨g,cap,cur,rfl,hge,hh,r⟩
 ·exact .inl h3
 ·exact .inr ⟨g,cap,cur,rfl,hge,(hg.block g (Array.getElem?_eq_some_iff.1 hh).1 (fun e=>hne g rfl e.symm)).trans hh,r⟩
def mkM (c : Cf.Cl) (l : List L3.Cp.C) (m : Cf.Mb) : Cf.Cl:={ c with pool:=l,ms:=c.ms ++ [m] }
def mkF (c : Cf.Cl) (l : List L3.Cp.C) (m : Cf.Mb) : Cf.Cl:={ c with pool:=l,fs:=c.fs ++ [m] }
theorem three {w : World} {c0 c1 c2 : Array Value} {T0 T1 T2 : TypeId} {W : World} (h : W = ((w.alloc (.cells c0 T0)).alloc (.cells c1 T1)).alloc (.cells c2 T2)) :
  L3.BX W w.heap.size c0 T0 ∧ L3.BX W (w.heap.size + 1) c1 T1 ∧ L3.BX W (w.heap.size + 1 + 1) c2 T2 ∧ W.heap.size = w.heap.size + 3 ∧ Below w.heap.size w W:=by
 subst h
 have b0:=BX.al (BX.al (L3.BX.new w c0 T0) (.cells c1 T1)) (.cells c2 T2)
 have b1:=BX.al (L3.BX.new (w.alloc (.cells c0 T0)) c1 T1) (.cells c2 T2)
 have b2:=L3.BX.new ((w.alloc (.cells c0 T0)).alloc (.cells c1 T1)) c2 T2
 simp only [World.size_alloc] at b1 b2
 exact ⟨b0,b1,b2,by simp only [World.size_alloc],BLw⟩
set_option maxHeartbeats 1000000 in
theorem withMethod_any (c : Cf.Cl) (vs : Array Value) (m : Cf.Mb) (cv hv : Value) (a b : ByteArray) (w : World) (hk : Ck w c) (h : ClR w vs c) (hs : Cf.Szc c) (hz : PoolSz c.pool) (hB : L3.Bs w.heap.size w cv m.code) (hH : Kit.IsS 4 w hv m.hs.length (m.hs.flatMap hL))
  (hmc : m.code.length ≤ 140737488355328) (hmh : m.hs.length * 32 ≤ 140737488355328) (ha : a.size ≤ 140737488355328) (hb : b.size ≤ 140737488355328) (hms : (c.ms.length + 1) * 88 ≤ 140737488355328) :
  Calls Tryz.prog 28 #[.agg vs,.string a,.string b,mbV m cv hv] w (WtPost (mkM c) c m a b w):=by
 obtain ⟨i0,hi,hz0,hz1,hz2⟩:=info_parts infoM
 have HK:=hid hk
 have HNd:=hid (fun W (k : Below w.heap.size w W)=>named_any c vs m cv hv a b W (hk.t3.below k hk.t3.size) (h.below k (Nat.le_refl _)) hs hz ((hB.below k (Nat.le_refl _)).mono k.size) (hH.below k (Nat.le_refl _)) hmc hmh ha hb)
 obtain ⟨pv,fv,mv,rfl,hp,hf,hm⟩:=h
 obtain ⟨pa,pc,rfl⟩:=hp.len
 obtain ⟨fa,fc,rfl⟩:=hf.len
 obtain ⟨ma2,mc,rfl⟩:=hm.len
 obtain ⟨xa,xc,rfl⟩:=hB.len
 obtain ⟨ya,yc,rfl⟩:=hH.len
 have HSz:=hid hs
 obtain ⟨mi,ma,P,ac,th,su,fs,ms⟩:=c
 obtain ⟨mac,mnm,mds,mst,mlc,co,hs9⟩:=m
 unfold mbV at HNd ⊢
 dsimp only at HNd HSz hms ⊢
 have HMs:=hid hms
 clear hk hp hf hm hB hH hmc hmh ha hb hs hz hms
 go_enter Tryz.func28,Tryz.ntmps28
 go_wp2_with fail
 obtain ⟨W1,hW1⟩ : ∃ W1,W1 = (((w.alloc (.cells #[.int .i64 mi,.int .i64 ma,.slice pa P.length pc,.int .i64 ac,.int .i64 th,.int .i64 su,.slice fa fs.length fc,.slice ma2 ms.length mc] 26)).alloc (.cells #[.int .i64 mac,.int .i64 mnm,.int .i64 mds,.int .i64 mst,.int .i64 mlc,.slice xa co.length xc,.slice ya hs9.length yc] 42)).alloc (.cells #[.int .i64 0,.int .i64 0,.slice none 0 0,.int .i64 0,.int .i64 0,.int .i64 0,.slice none 0 0,.slice none 0 0] 26)):=⟨_,rfl⟩
 obtain ⟨bC,bM,bR,hzW,B1⟩:=three hW1
 rw [← hW1]
 have HB1:=hid B1
 have BC1:=hid bC
 have BM1:=hid bM
 have BR1:=hid bR
 clear hW1 bC bM bR B1
 go_wp2_with (first|(go_at_call 65;refine (HNd.out W1 HB1.out).mono ?_;rintro e w2 hN;unfold NdPost at hN;rcases hN with ⟨l1,i1,e1,l2,i2,e2,hS1,hS2,(⟨hz,rfl⟩|⟨rfl,vs9,cv9,hv9,rfl,oC,oM,hPz,hAp⟩),hb2⟩;all_goals (have HS1:=hid hS1;have HS2:=hid hS2;have HB2:=hid hb2;have bC:=BC1.out.below hb2 BC1.out.sz;have bM:=BM1.out.below hb2 BM1.out.sz;have bR:=BR1.out.below hb2 BR1.out.sz;have c0:=bC.cell 0;have fc0:=bC.frozen 0;have c1:=bC.cell 1;have fc1:=bC.frozen 1;have c2:=bC.cell 2;have fc2:=bC.frozen 2;have c3:=bC.cell 3;have fc3:=bC.frozen 3;have c4:=bC.cell 4;have fc4:=bC.frozen 4;have c5:=bC.cell 5;have fc5:=bC.frozen 5;have c6:=bC.cell 6;have fc6:=bC.frozen 6;have c7:=bC.cell 7;have fc7:=bC.frozen 7;simp at c0 c1 c2 c3 c4 c5 c6 c7;have m0:=bM.cell 0;have fm0:=bM.frozen 0;have m1:=bM.cell 1;have fm1:=bM.frozen 1;have m2:=bM.cell 2;have fm2:=bM.frozen 2;have m3:=bM.cell 3;have fm3:=bM.frozen 3;have m4:=bM.cell 4;have fm4:=bM.frozen 4;have m5:=bM.cell 5;have fm5:=bM.frozen 5;have m6:=bM.cell 6;have fm6:=bM.frozen 6;simp at m0 m1 m2 m3 m4 m5 m6;have r0:=bR.cell 0;have fr0:=bR.frozen 0;have r1:=bR.cell 1;have fr1:=bR.frozen 1;have r2:=bR.cell 2;have fr2:=bR.frozen 2;have r3:=bR.cell 3;have fr3:=bR.frozen 3;have r4:=bR.cell 4;have fr4:=bR.frozen 4;have r5:=bR.cell 5;have fr5:=bR.frozen 5;have r6:=bR.cell 6;have fr6:=bR.frozen 6;have r7:=bR.cell 7;have fr7:=bR.frozen 7;simp at r0 r1 r2 r3 r4 r5 r6 r7;clear bC bM bR hb2 hS1 hS2);all_goals (first|(have hdd : (e2 != 0) = true:=(by simpa using hz);have HZ:=hid hz;clear hz;unfold K0V mbV Cf.M0;dsimp only)|(have OC2:=hid oC;have OM2:=hid oM;have HPz:=hid hPz;have HAp:=hid hAp;obtain ⟨pv9,fv9,mv9,rfl,o1,o2,o3⟩:=oC;obtain ⟨pa9,pc9,rfl⟩:=L3.own_form o1;obtain ⟨fa9,fc9,rfl⟩:=OMs.form o2;obtain ⟨ma9,mc9,rfl⟩:=OMs.form o3;obtain ⟨cv3,hv3,he3,oc,oh,-,-⟩:=oM;obtain ⟨rfl,rfl⟩ : cv9 = cv3 ∧ hv9 = hv3:=(by simpa [mL] using he3);obtain ⟨xa2,xc2,rfl⟩:=L3.own_form oc;obtain ⟨ya2,yc2,rfl⟩:=L3.own_form oh;unfold mbV;dsimp only at OC2 OM2 ⊢;clear o1 o2 o3 oc oh he3 hPz hAp)))|(at_builtin;have _g:=OC2;(fail_if_success (have _g:=HO4));have g8:=grown8 w2 (w.heap.size) (.int .i64 mi) (.int .i64 ma) (.slice pa9 l2.length pc9) (.int .i64 ac) (.int .i64 th) (.int .i64 su) (.slice fa9 fs.length fc9) (.slice ma9 ms.length mc9);have g7:=grown7 ((((((((w2.setCell ⟨w.heap.size,0,none⟩ (.int .i64 mi)).setCell ⟨w.heap.size,1,none⟩ (.int .i64 ma)).setCell ⟨w.heap.size,2,none⟩ (.slice pa9 l2.length pc9)).setCell ⟨w.heap.size,3,none⟩ (.int .i64 ac)).setCell ⟨w.heap.size,4,none⟩ (.int .i64 th)).setCell ⟨w.heap.size,5,none⟩ (.int .i64 su)).setCell ⟨w.heap.size,6,none⟩ (.slice fa9 fs.length fc9)).setCell ⟨w.heap.size,7,none⟩ (.slice ma9 ms.length mc9)) (w.heap.size + 1) (.int .i64 mac) (.int .i64 (i1 : Nat)) (.int .i64 (i2 : Nat)) (.int .i64 mst) (.int .i64 mlc) (.slice xa2 co.length xc2) (.slice ya2 hs9.length yc2);have bC:=(put8 (BC1.out.below HB2.out BC1.out.sz) rfl (.int .i64 mi) (.int .i64 ma) (.slice pa9 l2.length pc9) (.int .i64 ac) (.int .i64 th) (.int .i64 su) (.slice fa9 fs.length fc9) (.slice ma9 ms.length mc9)).grown g7 (fun e=>by (have:=Option.some.inj e;omega));have bM:=put7 ((BM1.out.below HB2.out BM1.out.sz).grown g8 (fun e=>by (have:=Option.some.inj e;omega))) rfl (.int .i64 mac) (.int .i64 (i1 : Nat)) (.int .i64 (i2 : Nat)) (.int .i64 mst) (.int .i64 mlc) (.slice xa2 co.length xc2) (.slice ya2 hs9.length yc2);have bR:=((BR1.out.below HB2.out BR1.out.sz).grown g8 (fun e=>by (have:=Option.some.inj e;omega))).grown g7 (fun e=>by (have:=Option.some.inj e;omega));have oC:=(OC2.out.grown g8 (by omega)).grown g7 (by omega);have oM:=(OM2.out.grown g8 (by omega)).grown g7 (by omega);have B3:=nwB (nwB (belows HB1.out HB2.out HB1.out.size) g8 ⟨Nat.le_refl _,by (have:=HB1.out.size;have:=HB2.out.size;omega)⟩) g7 ⟨by omega,by (have:=HB1.out.size;have:=HB2.out.size;have:=g8.size;omega)⟩;have hz3 : W1.heap.size ≤ (((((((((((((((w2.setCell ⟨w.heap.size,0,none⟩ (.int .i64 mi)).setCell ⟨w.heap.size,1,none⟩ (.int .i64 ma)).setCell ⟨w.heap.size,2,none⟩ (.slice pa9 l2.length pc9)).setCell ⟨w.heap.size,3,none⟩ (.int .i64 ac)).setCell ⟨w.heap.size,4,none⟩ (.int .i64 th)).setCell ⟨w.heap.size,5,none⟩ (.int .i64 su)).setCell ⟨w.heap.size,6,none⟩ (.slice fa9 fs.length fc9)).setCell ⟨w.heap.size,7,none⟩ (.slice ma9 ms.length mc9)).setCell ⟨w.heap.size + 1,0,none⟩ (.int .i64 mac)).setCell ⟨w.heap.size + 1,1,none⟩ (.int .i64 (i1 : Nat))).setCell ⟨w.heap.size + 1,2,none⟩ (.int .i64 (i2 : Nat))).setCell ⟨w.heap.size + 1,3,none⟩ (.int .i64 mst)).setCell ⟨w.heap.size + 1,4,none⟩ (.int .i64 mlc)).setCell ⟨w.heap.size + 1,5,none⟩ (.slice xa2 co.length xc2)).setCell ⟨w.heap.size + 1,6,none⟩ (.slice ya2 hs9.length yc2)).heap.size:=(by (have:=HB2.out.size;have:=g8.size;have:=g7.size;omega));obtain ⟨W3,hW3⟩ : ∃ W,W = (((((((((((((((w2.setCell ⟨w.heap.size,0,none⟩ (.int .i64 mi)).setCell ⟨w.heap.size,1,none⟩ (.int .i64 ma)).setCell ⟨w.heap.size,2,none⟩ (.slice pa9 l2.length pc9)).setCell ⟨w.heap.size,3,none⟩ (.int .i64 ac)).setCell ⟨w.heap.size,4,none⟩ (.int .i64 th)).setCell ⟨w.heap.size,5,none⟩ (.int .i64 su)).setCell ⟨w.heap.size,6,none⟩ (.slice fa9 fs.length fc9)).setCell ⟨w.heap.size,7,none⟩ (.slice ma9 ms.length mc9)).setCell ⟨w.heap.size + 1,0,none⟩ (.int .i64 mac)).setCell ⟨w.heap.size + 1,1,none⟩ (.int .i64 (i1 : Nat))).setCell ⟨w.heap.size + 1,2,none⟩ (.int .i64 (i2 : Nat))).setCell ⟨w.heap.size + 1,3,none⟩ (.int .i64 mst)).setCell ⟨w.heap.size + 1,4,none⟩ (.int .i64 mlc)).setCell ⟨w.heap.size + 1,5,none⟩ (.slice xa2 co.length xc2)).setCell ⟨w.heap.size + 1,6,none⟩ (.slice ya2 hs9.length yc2)):=⟨_,rfl⟩;have hsz3 : w2.heap.size = W3.heap.size:=(by rw [hW3];simp only [World.size_setCell]);rw [← hW3] at bC bM bR oC oM B3 hz3 ⊢;rw [hsz3];obtain ⟨pvx,fvx,mvx,hvs,o1,o2,⟨rs,hrs,o3⟩⟩:=oC;dsimp only at hrs o1 o2 o3 hvs;have hvs2 : pvx = .slice pa9 l2.length pc9 ∧ fvx = .slice fa9 fs.length fc9 ∧ mvx = .slice ma9 ms.length mc9:=(by (simp at hvs;exact ⟨hvs.1.symm,hvs.2.1.symm,hvs.2.2.symm⟩));obtain ⟨rfl,rfl,rfl⟩:=hvs2;clear c0 c1 c2 c3 c4 c5 c6 c7 m0 m1 m2 m3 m4 m5 m6 r0 r1 r2 r3 r4 r5 r6 r7 fc0 fc1 fc2 fc3 fc4 fc5 fc6 fc7 fm0 fm1 fm2 fm3 fm4 fm5 fm6 fr0 fr1 fr2 fr3 fr4 fr5 fr6 fr7 hW3 g8 g7 hvs;refine wpList_append_own_at _ rfl (.tmp 25) (.tmp 27) 24 rfl W1.heap.size 42 i0 _ 7 88 Tryz.underlying24 hi hz0 hz1 hz2 rfl (by decide) _ _ _ rfl (o3.alloc _) ⟨W3.heap.size,0,none⟩ 1 1 (mL ⟨mac,(i1 : Nat),(i2 : Nat),mst,mlc,co,hs9⟩ (.slice xa2 co.length xc2) (.slice ya2 hs9.length yc2)) rfl rfl (news_m W3 ⟨mac,(i1 : Nat),(i2 : Nat),mst,mlc,co,hs9⟩ _ _) (ones_m ⟨mac,(i1 : Nat),(i2 : Nat),mst,mlc,co,hs9⟩ rfl rfl) (by (have:=HMs.out;unfold maxLen;omega)) (by (have:=HMs.out;omega)) (by simp only [World.size_alloc];omega) ?_;intro v4 W4 ho4 hg4 _ hk4;have ba : Below W3.heap.size W3 (W3.alloc (.cells #[.int .i64 mac,.int .i64 (i1 : Nat),.int .i64 (i2 : Nat),.int .i64 mst,.int .i64 mlc,.slice xa2 co.length xc2,.slice ya2 hs9.length yc2] 42)):=(Below.refl _ _).alloc (Nat.le_refl _) _;have hrs:=hrs.mono fun _ _ k=>k.below ba (Nat.le_refl _);have oM:=oM.below ba (Nat.le_refl _);have hge : ∀ k,(Value.slice ma9 ms.length mc9).ownBlock = some k → W1.heap.size ≤ k:=Kit.own_base o3;have bC:=(BX.al bC _).grown hg4 (fun e=>by (have:=hge _ e;omega));have bM:=(BX.al bM _).grown hg4 (fun e=>by (have:=hge _ e;omega));have bR:=(BX.al bR _).grown hg4 (fun e=>by (have:=hge _ e;omega));have o1:=owns_apart (World.ownsRow.alloc o1 _) (o3.alloc _) (by decide) hg4;have o2:=OMs.aside (o2.below ba (Nat.le_refl _)) (o3.alloc _) (fun k hk e9=>HAp.out k hk e9) hg4;have o4:=OMs.push hrs (o3.alloc _) oM hg4 ho4;have B4:=(B3.alloc B3.size _).grown hg4 (by (have:=B3.size;rw [World.size_alloc];omega)) (fun k hk=>by (have:=hge k hk;omega));have hz4 : W1.heap.size ≤ W4.heap.size:=(by (have q9:=hg4.size;rw [World.size_alloc] at q9;omega));have HB4:=hid B4;have BC4:=hid bC;have BR4:=hid bR;have c0:=bC.cell 0;have fc0:=bC.frozen 0;have c1:=bC.cell 1;have fc1:=bC.frozen 1;have c2:=bC.cell 2;have fc2:=bC.frozen 2;have c3:=bC.cell 3;have fc3:=bC.frozen 3;have c4:=bC.cell 4;have fc4:=bC.frozen 4;have c5:=bC.cell 5;have fc5:=bC.frozen 5;have c6:=bC.cell 6;have fc6:=bC.frozen 6;have c7:=bC.cell 7;have fc7:=bC.frozen 7;simp at c0 c1 c2 c3 c4 c5 c6 c7;obtain ⟨ma4,mc4,rfl⟩:=OMs.form o4;have e7 : (ms ++ [(⟨mac,(i1 : Nat),(i2 : Nat),mst,mlc,co,hs9⟩ : Cf.Mb)]).length = ms.length + 1:=(by simp);rw [e7] at o4;have HO4:=hid (And.intro o1 (And.intro o2 o4));clear o1 o2 o3 o4 hrs oM bC bM bR B3 B4 ba hge ho4 hg4 hk4)|(go_at_call 35;go_loud (have g5:=L3.set_grown W4 w.heap.size 7 (.slice ma4 (ms.length + 1) mc4);have o1:=Kit.owns_grown HO4.out.1 g5 (by omega);have o2:=HO4.out.2.1.grown g5 (by omega);have o4:=HO4.out.2.2.grown g5 (by omega);have bR:=BR4.out.grown g5 (fun e=>by (have:=Option.some.inj e;omega));have B5:=nwB HB4.out g5 ⟨Nat.le_refl _,HB4.out.size⟩;have oC5z : W1.heap.size ≤ (W4.setCell ⟨w.heap.size,7,none⟩ (.slice ma4 (ms.length + 1) mc4)).heap.size:=(by rw [World.size_setCell];exact hz4);obtain ⟨W5,hW5⟩ : ∃ W,W = W4.setCell ⟨w.heap.size,7,none⟩ (.slice ma4 (ms.length + 1) mc4):=⟨_,rfl⟩;rw [← hW5] at o1 o2 o4 bR B5 oC5z ⊢;have oC : OCl W5 W1.heap.size #[.int .i64 mi,.int .i64 ma,.slice pa9 l2.length pc9,.int .i64 ac,.int .i64 th,.int .i64 su,.slice fa9 fs.length fc9,.slice ma4 (ms.length + 1) mc4] ⟨mi,ma,l2,ac,th,su,fs,ms ++ [⟨mac,(i1 : Nat),(i2 : Nat),mst,mlc,co,hs9⟩]⟩:=⟨_,_,_,rfl,o1,o2,o4⟩;have hcl:=oC.reads ⟨by (have:=HPz.out.1;show l2.length ≤ _;omega),by (have q9 : fs.length * 88 ≤ 140737488355328:=HSz.out.2.1;show fs.length ≤ _;omega),by (have:=HMs.out;show (ms ++ [_]).length ≤ _;rw [List.length_append];show ms.length + 1 ≤ _;omega)⟩;have hck : Ck W5 ⟨mi,ma,l2,ac,th,su,fs,ms ++ [⟨mac,(i1 : Nat),(i2 : Nat),mst,mlc,co,hs9⟩]⟩:=⟨(HK.out.below B5).t1,(HK.out.below B5).t3,HPz.out.1,HPz.out.2⟩;refine (checked_any _ _ W5 hck hcl).mono ?_;rintro e w6 ⟨h6|⟨er,hz,hR,rfl⟩,hb6⟩;all_goals (try (obtain ⟨hR,rfl⟩:=h6));all_goals (have HR6:=hid hR;have HC6:=hid (oC.below hb6 (Nat.le_refl _));have B6:=belows B5 hb6 B5.size;have hz6 : W1.heap.size ≤ w6.heap.size:=(by (have:=hb6.size;have:=oC5z;omega));have HB6:=hid B6;have bR6:=bR.below hb6 bR.sz;have r0:=bR6.cell 0;have fr0:=bR6.frozen 0;have r1:=bR6.cell 1;have fr1:=bR6.frozen 1;have r2:=bR6.cell 2;have fr2:=bR6.frozen 2;have r3:=bR6.cell 3;have fr3:=bR6.frozen 3;have r4:=bR6.cell 4;have fr4:=bR6.frozen 4;have r5:=bR6.cell 5;have fr5:=bR6.frozen 5;have r6:=bR6.cell 6;have fr6:=bR6.frozen 6;have r7:=bR6.cell 7;have fr7:=bR6.frozen 7;simp at r0 r1 r2 r3 r4 r5 r6 r7;clear bR6 bR B5 B6 hcl hck o1 o2 o4 oC hW5 g5 hb6 hR;(try (have HZ:=hid hz;clear hz;unfold K0V))))))
 ·have B2 : Below w.heap.size w w2:=belows HB1.out HB2.out HB1.out.size
  exact bodyPost_ret (v:=.tuple #[.agg #[.int .i64 0,.int .i64 0,.slice none 0 0,.int .i64 0,.int .i64 0,.int .i64 0,.slice none 0 0,.slice none 0 0],.int .i64 e2]) (by simp [results,Tryz.results28,go_sem,r0,r1,r2,r3,r4,r5,r6,r7]) rfl (by unfold WtPost K0V;exact ⟨l1,i1,e1,l2,i2,e2,HS1.out,HS2.out,.inl ⟨HZ.out,rfl⟩,BLw⟩)
 ·have g8:=grown8 w6 (w.heap.size + 1 + 1) (.int .i64 mi) (.int .i64 ma) (.slice pa9 l2.length pc9) (.int .i64 ac) (.int .i64 th) (.int .i64 su) (.slice fa9 fs.length fc9) (.slice ma4 (ms.length + 1) mc4)
  have oC:=(HC6.out.grown g8 (by omega)).mono (base':=w.heap.size) (by omega)
  have B6:=HB6.out
  exact bodyPost_ret (v:=.tuple #[.agg #[.int .i64 mi,.int .i64 ma,.slice pa9 l2.length pc9,.int .i64 ac,.int .i64 th,.int .i64 su,.slice fa9 fs.length fc9,.slice ma4 (ms.length + 1) mc4],.int .i64 0]) (by simp [results,Tryz.results28,go_sem,r0,r1,r2,r3,r4,r5,r6,r7]) rfl (by unfold WtPost;exact ⟨l1,i1,e1,l2,i2,0,HS1.out,HS2.out,.inr ⟨rfl,.inl ⟨HR6.out,_,rfl,oC,HPz.out⟩⟩,BLw⟩)
 ·have B6:=HB6.out
  exact bodyPost_ret (v:=.tuple #[.agg #[.int .i64 0,.int .i64 0,.slice none 0 0,.int .i64 0,.int .i64 0,.int .i64 0,.slice none 0 0,.slice none 0 0],.int .i64 er]) (by simp [results,Tryz.results28,go_sem,r0,r1,r2,r3,r4,r5,r6,r7]) rfl (by unfold WtPost K0V;exact ⟨l1,i1,e1,l2,i2,0,HS1.out,HS2.out,.inr ⟨rfl,.inr ⟨er,HZ.out,HR6.out,rfl⟩⟩,BLw⟩)
end Go.Proofs.YtnojgiflgmnjlaaGreatDoor
namespace Go.Proofs.YtnojgiflgmnjlaaGreatDoor
open Go.RowKit
set_option maxHeartbeats 400000 in
theorem rsc_any (l : List L3.Cp.C) (v u : Value) (w : World) (hv : Kit.IsS 5 w v l.length (l.flatMap L3.cL)) (hu : Kit.IsS 5 w u l.length (l.flatMap L3.cL)) :
  Calls Tryz.prog 42 #[v,u] w fun e w'=>e = .returned (.bool true) ∧ Below w.heap.size w w':=by
 have HV:=hid hv
 have HU:=hid hu
 obtain ⟨a1,cap1,hv2⟩:=hv.len
 obtain ⟨a2,cap2,hu2⟩:=hu.len
 subst hv2 hu2
 have hlen:=hv.2.1
 clear hv hu
 go_enter Tryz.func42,Tryz.ntmps42
 go_wp2
 go_loopw [5] (fun i wr=>∃ k : Nat,k ≤ l.length ∧ i = .int .i64 k ∧ Below w.heap.size w wr) (fun i _=>l.length - (intOf i).toNat)
 case atStart=>exact ⟨0,by omega,rfl,BLw⟩
 case round =>
  obtain ⟨k,hk,rfl,hbl⟩:=hrel
  have hbz:=hbl.size
  by_cases hlt : k < l.length
  ·obtain ⟨x,hx⟩ : ∃ x,l[k]? = some x:=⟨l[k],List.getElem?_eq_getElem hlt⟩
   obtain ⟨b,o,cap',hv,hb,c0,c1,c2,c3,c4⟩:=L3.c_at (HV.out.below hbl (Nat.le_refl _)) hx
   obtain ⟨rfl,-,rfl⟩:=Value.slice.inj hv
   obtain ⟨b',o',cap',hv',hb',d0,d1,d2,d3,d4⟩:=L3.c_at (HU.out.below hbl (Nat.le_refl _)) hx
   obtain ⟨rfl,-,rfl⟩:=Value.slice.inj hv'
   have i1 : (k : Int) < (l.length : Int):=by omega
   clear hx hv hv'
   go_wp2
   go_quiet (fail)
   go_wp2
   go_roundw
   case rel=>exact ⟨k + 1,by omega,by go_num,BLw⟩
   case measure=>simp [intOf];omega
  ·obtain rfl : k = l.length:=by omega
   go_wp2
   go_ret
   exact ⟨rfl,BLw⟩
set_option maxHeartbeats 400000 in
theorem rsh_any (l : List Cf.Hn) (v u : Value) (w : World) (hv : Kit.IsS 4 w v l.length (l.flatMap hL)) (hu : Kit.IsS 4 w u l.length (l.flatMap hL)) :
  Calls Tryz.prog 84 #[v,u] w fun e w'=>e = .returned (.bool true) ∧ Below w.heap.size w w':=by
 have HV:=hid hv
 have HU:=hid hu
 obtain ⟨a1,cap1,hv2⟩:=hv.len
 obtain ⟨a2,cap2,hu2⟩:=hu.len
 subst hv2 hu2
 have hlen:=hv.2.1
 clear hv hu
 go_enter Tryz.func84,Tryz.ntmps84
 go_wp2
 go_loopw [5] (fun i wr=>∃ k : Nat,k ≤ l.length ∧ i = .int .i64 k ∧ Below w.heap.size w wr) (fun i _=>l.length - (intOf i).toNat)
 case atStart=>exact ⟨0,by omega,rfl,BLw⟩
 case round =>
  obtain ⟨k,hk,rfl,hbl⟩:=hrel
  have hbz:=hbl.size
  by_cases hlt : k < l.length
  ·obtain ⟨x,hx⟩ : ∃ x,l[k]? = some x:=⟨l[k],List.getElem?_eq_getElem hlt⟩
   obtain ⟨b,o,cap',hv,hb,c0,c1,c2,c3⟩:=h_at (HV.out.below hbl (Nat.le_refl _)) hx
   obtain ⟨rfl,-,rfl⟩:=Value.slice.inj hv
   obtain ⟨b',o',cap',hv',hb',d0,d1,d2,d3⟩:=h_at (HU.out.below hbl (Nat.le_refl _)) hx
   obtain ⟨rfl,-,rfl⟩:=Value.slice.inj hv'
   have i1 : (k : Int) < (l.length : Int):=by omega
   clear hx hv hv'
   go_wp2
   go_quiet (fail)
   go_wp2
   go_roundw
   case rel=>exact ⟨k + 1,by omega,by go_num,BLw⟩
   case measure=>simp [intOf];omega
  ·obtain rfl : k = l.length:=by omega
   go_wp2
   go_ret
   exact ⟨rfl,BLw⟩
set_option maxHeartbeats 1000000 in
theorem rsm_any (ms : List Cf.Mb) (v u : Value) (w : World) (hv : MsR w v ms) (hu : MsR w u ms) :
  Calls Tryz.prog 43 #[v,u] w fun e w'=>e = .returned (.bool true) ∧ Below w.heap.size w w':=by
 have HV:=hid hv
 have HU:=hid hu
 obtain ⟨a1,cap1,hv2⟩:=hv.len
 obtain ⟨a2,cap2,hu2⟩:=hu.len
 subst hv2 hu2
 have hlen:=hv.size
 clear hv hu
 go_enter Tryz.func43,Tryz.ntmps43
 go_wp2
 go_loopw [5] (fun i wr=>∃ k : Nat,k ≤ ms.length ∧ i = .int .i64 k ∧ Below w.heap.size w wr) (fun i _=>ms.length - (intOf i).toNat)
 case atStart=>exact ⟨0,by omega,rfl,BLw⟩
 case round =>
  obtain ⟨k,hk,rfl,hbl⟩:=hrel
  have hbz:=hbl.size
  by_cases hlt : k < ms.length
  ·obtain ⟨⟨ac,nm,ds,st,lc,co,hs9⟩,hx⟩ : ∃ x,ms[k]? = some x:=⟨ms[k],List.getElem?_eq_getElem hlt⟩
   obtain ⟨b,o,cap',cv,hw,hv2,hbb,hB,hH,hcl,c0,c1,c2,c3,c4,c5,c6⟩:=(HV.out.below hbl (Nat.le_refl _)).at hx
   obtain ⟨b2,o2,cap2',cv2,hw2,hu2,hbb2,hB2,hH2,-,d0,d1,d2,d3,d4,d5,d6⟩:=(HU.out.below hbl (Nat.le_refl _)).at hx
   obtain ⟨rfl,-,rfl⟩:=Value.slice.inj hv2
   obtain ⟨rfl,-,rfl⟩:=Value.slice.inj hu2
   have hki : (k : Int) < (ms.length : Int):=by omega
   dsimp only at c0 c1 c2 c3 c4 c5 c6 d0 d1 d2 d3 d4 d5 d6 hB hH hB2 hH2
   have HHs:=hid (fun W (k : Below wr.heap.size wr W)=>rsh_any hs9 _ _ W (hH.below k (Nat.le_refl _)) (hH2.below k (Nat.le_refl _)))
   obtain ⟨xa,xc,rfl⟩:=hB.len
   obtain ⟨ya,yc,rfl⟩:=hH.len
   obtain ⟨xa2,xc2,rfl⟩:=hB2.len
   obtain ⟨ya2,yc2,rfl⟩:=hH2.len
   have B7 : Below wr.heap.size wr ((wr.alloc (.cells #[.int .i64 ac,.int .i64 nm,.int .i64 ds,.int .i64 st,.int .i64 lc,.slice xa co.length xc,.slice ya hs9.length yc] 42)).alloc (.cells #[.int .i64 ac,.int .i64 nm,.int .i64 ds,.int .i64 st,.int .i64 lc,.slice xa2 co.length xc2,.slice ya2 hs9.length yc2] 42)):=BLw
   have hv7:=L3.bs_conv ((hB.below B7 (Nat.le_refl _)).mono B7.size)
   have hu7:=L3.bs_conv ((hB2.below B7 (Nat.le_refl _)).mono B7.size)
   clear hx hv2 hu2 hB hH hB2 hH2 hcl
   go_wp2_with (go_at_call 84;refine (HHs.out _ B7).mono ?_;rintro e W8 ⟨rfl,hb8⟩;have B8:=belows B7 hb8 B7.size)
   go_roundw
   case rel=>exact ⟨k + 1,by omega,by go_num,belows hbl B8 hbz⟩
   case measure=>simp [intOf];omega
  ·obtain rfl : k = ms.length:=by omega
   go_wp2
   go_ret
   exact ⟨rfl,BLw⟩
set_option maxHeartbeats 1000000 in
theorem rsame_any (c : Cf.Cl) (vs us : Array Value) (w : World) (hv : ClR w vs c) (hu : ClR w us c) :
  Calls Tryz.prog 14 #[.agg vs,.agg us] w fun e w'=>e = .returned (.bool true) ∧ Below w.heap.size w w':=by
 obtain ⟨pv,fv,mv,rfl,hp,hf,hm⟩:=hv
 obtain ⟨qv,gv,nv,rfl,kp,kf,km⟩:=hu
 have HP:=hid (fun W (k : Below w.heap.size w W)=>rsc_any c.pool pv qv W (hp.below k (Nat.le_refl _)) (kp.below k (Nat.le_refl _)))
 have HF:=hid (fun W (k : Below w.heap.size w W)=>rsm_any c.fs fv gv W (hf.below k (Nat.le_refl _)) (kf.below k (Nat.le_refl _)))
 have HM:=hid (fun W (k : Below w.heap.size w W)=>rsm_any c.ms mv nv W (hm.below k (Nat.le_refl _)) (km.below k (Nat.le_refl _)))
 obtain ⟨pa,pc,rfl⟩:=hp.len
 obtain ⟨fa,fc,rfl⟩:=hf.len
 obtain ⟨ma2,mc,rfl⟩:=hm.len
 obtain ⟨pa',pc',rfl⟩:=kp.len
 obtain ⟨fa',fc',rfl⟩:=kf.len
 obtain ⟨ma2',mc',rfl⟩:=km.len
 clear hp hf hm kp kf km
 go_enter Tryz.func14,Tryz.ntmps14
 go_wp2_with (first|(go_at_call 42;refine (HP.out _ BLw).mono ?_;rintro e w1 ⟨rfl,hb1⟩;obtain ⟨bC,bD,hz1,B1⟩:=boxes2 hb1;have q6:=bC.cell 6;have r6:=bD.cell 6;have q7:=bC.cell 7;have r7:=bD.cell 7;simp at q6 q7 r6 r7;have bC1:=bC;have bD1:=bD;clear hb1)|(go_at_call 43;have _g:=B2;refine (HM.out _ B2).mono ?_;rintro e w3 ⟨rfl,hb3⟩;have B3:=belows B2 hb3 B2.size)|(go_at_call 43;refine (HF.out _ B1).mono ?_;rintro e w2 ⟨rfl,hb2⟩;have B2:=belows B1 hb2 B1.size;have bC:=bC1.below hb2 bC1.sz;have bD:=bD1.below hb2 bD1.sz;have q7:=bC.cell 7;have r7:=bD.cell 7;simp at q7 r7))
 go_ret
 exact ⟨rfl,B3⟩
end Go.Proofs.YtnojgiflgmnjlaaGreatDoor
