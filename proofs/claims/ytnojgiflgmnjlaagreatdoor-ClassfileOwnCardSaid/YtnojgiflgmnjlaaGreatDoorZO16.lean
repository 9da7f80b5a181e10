/- Own texts for the claim, part 16. -/
import Derived.Test.YtnojgiflgmnjlaaGreatDoorZO15
set_option maxRecDepth 100000
namespace Go.Proofs.YtnojgiflgmnjlaaGreatDoor
open Go.RowKit
def AskPost (w0 : World) (vs : Array Value) (c : Cf.Cl) (ms : List Cf.Mb) (cb qb mb k : Nat) (R : Int → Prop) (e : Ending) (W' : World) : Prop :=
 ∃ er,R er ∧ e = .returned (.int .i64 er) ∧ (er = 0 → MJ w0 vs c ms cb qb mb (k + 1) W') ∧ Below w0.heap.size w0 W'
theorem init_eq (s : ByteArray) : (s.toList == [60,105,110,105,116,62]) = decide (s = Cf.initS):=by
 rw [Bool.eq_iff_iff,beq_iff_eq,decide_eq_true_eq]
 constructor
 ·intro h
  exact ba_eq (by rw [← ByteArray.toList_eq,h];rfl)
 ·intro h;subst h;rw [ByteArray.toList_eq];rfl
set_option maxHeartbeats 2000000 in
theorem askField_any (w0 : World) (vs : Array Value) (c : Cf.Cl) (ms : List Cf.Mb) (cb qb mb k : Nat) (m : Cf.Mb) (cv hv : Value) (W0 : World) (hP : ∀ x ∈ c.pool,x.s.size ≤ 140737488355328) (hl : ms.length < maxLen) (hk : ms[k]? = some m) (hj : MJ w0 vs c ms cb qb mb k W0)
  (hcv : ∃ a cap,cv = .slice a m.code.length cap) (hhv : ∃ a cap,hv = .slice a m.hs.length cap) :
  Calls Tryz.prog 104 #[mbV m cv hv,.pointer (some ⟨cb,0,none⟩),.pointer (some ⟨qb,0,none⟩)] W0 (AskPost w0 vs c ms cb qb mb k (Cf.FdIs c.pool ms k)):=by
 obtain ⟨xa,xc,rfl⟩:=hcv
 obtain ⟨ya,yc,rfl⟩:=hhv
 have hn0:=hj.b.size
 have HK0:=fun W (h : Below w0.heap.size w0 W)=>checkName_any c vs m (.slice xa m.code.length xc) (.slice ya m.hs.length yc) W (hj.cl.below h (Nat.le_refl _))
 have hr : Cf.FdIs c.pool ms k (Cf.fdE c.pool (Cf.ahead c.pool ms k) m):=⟨m,hk,rfl⟩
 have hfit:=mb_fits hP m
 have hnm:=@nm_mb c.pool m
 have hne : ∀ W,MJ w0 vs c ms cb qb mb k W → (Cf.nmO c.pool m).2 = 0 → Calls Tryz.prog 107 #[.map (some mb),ndV (Cf.nmO c.pool m).1] W fun e w'=>e = .returned (.int .i64 (if Cf.inB (Cf.nmO c.pool m).1 (Cf.ahead c.pool ms k) = true then 5 else 0)) ∧ ((Cf.inB (Cf.nmO c.pool m).1 (Cf.ahead c.pool ms k) = false) → MJ w0 vs c ms cb qb mb (k + 1) w') ∧ Below w0.heap.size w0 w':=by
  intro W h h0
  rw [hnm h0]
  refine (nadd_any mb (Cf.mbO c.pool m).1 (Cf.ahead c.pool ms k) W h.nm hfit (by unfold Cf.ahead;rw [List.length_map,List.length_take];omega)).mono ?_
  rintro e w' ⟨rfl,h1,h2⟩
  refine ⟨rfl,fun h3=>?_,h.any h2⟩
  rw [if_neg (by rw [h3];decide)] at h1
  exact h.next hk h2 h1
 have J0:=hid hj
 obtain ⟨X,hX⟩ : ∃ X,X = Cf.fdE c.pool (Cf.ahead c.pool ms k) m:=⟨_,rfl⟩
 rw [← hX] at hr
 unfold Cf.fdE Cf.plainM at hX
 obtain ⟨bi,hbi⟩ : ∃ b,b = Cf.inB (Cf.nmO c.pool m).1 (Cf.ahead c.pool ms k):=⟨_,rfl⟩
 rw [← hbi] at hX hne
 obtain ⟨⟨⟨n1,n2⟩,er⟩,hx⟩ : ∃ x,x = Cf.nmO c.pool m:=⟨_,rfl⟩
 rw [← hx] at HK0 hX hne
 dsimp only at HK0 hX hne
 have HF0:=fun W=>L2.field_any n2 W
 obtain ⟨⟨⟨tk,tm⟩,fe⟩,hy⟩ : ∃ y,y = L2.fdOut (L2.Ds.bl n2):=⟨_,rfl⟩
 rw [← hy] at HF0 hX
 unfold L2.tyV at HF0
 unfold ndV at HK0 hne
 obtain ⟨ac,nm,ds,st,lc,co,hs9⟩:=m
 dsimp only at HF0 hX
 unfold mbV at HK0 ⊢
 dsimp only at HK0 ⊢
 obtain ⟨cl,hcl⟩ : ∃ n,n = co.length:=⟨_,rfl⟩
 obtain ⟨hl9,hhl⟩ : ∃ n,n = hs9.length:=⟨_,rfl⟩
 rw [← hcl] at HK0 hX ⊢
 rw [← hhl] at HK0 hX ⊢
 obtain ⟨pv,fv,mv,hvs,-,-,-⟩:=hj.cl
 have hin:=init_eq n1
 obtain ⟨nb,hnb⟩ : ∃ b,b = decide (n1 = Cf.initS):=⟨_,rfl⟩
 rw [← hnb] at hin
 have HNB:=hid hnb
 have HK:=hid HK0
 have HF:=hid HF0
 have HE:=hid hne
 have HR:=hid hr
 have HX:=hid hX
 unfold AskPost
 have hc0:=J0.out.qc
 have q0:=J0.out.cx.cell 0
 have q1:=J0.out.cx.cell 1
 have q2:=J0.out.cx.cell 2
 have q3:=J0.out.cx.cell 3
 have q4:=J0.out.cx.cell 4
 have q5:=J0.out.cx.cell 5
 have q6:=J0.out.cx.cell 6
 have q7:=J0.out.cx.cell 7
 rw [hvs] at q0 q1 q2 q3 q4 q5 q6 q7
 simp at q0 q1 q2 q3 q4 q5 q6 q7
 have hlt1:=J0.out.cx.sz
 have hlt2:=J0.out.qx.sz
 rw [hvs] at HK
 clear HK0 HF0 hne hr hX hx hy hbi hcl hhl hnb hk hP hl hfit hnm hvs hj
 by_cases h1 : er = 0
 ·subst h1
  by_cases h2 : fe = 0
  ·subst h2
   have hX2:=HX.out
   rw [if_neg (by decide),if_neg (by decide)] at hX2
   clear HX
   have hN:=HNB.out
   cases nb with
   | true =>
    rw [if_pos (.inl (of_decide_eq_true hN.symm))] at hX2
    subst hX2
    clear hN
    (go_enter Tryz.func104,Tryz.ntmps104;go_wp2_with (first|(go_at_call 105;(with_reducible refine (HK.out _ ?_).mono ?_);exact (J0.out.b.alloc hn0 _);rintro e W1 ⟨rfl,hb1⟩;obtain ⟨bM,hzM,B1⟩:=belows1 hb1;have J1:=hid (J0.out.below B1);have c0:=J1.out.qc;obtain ⟨m0,m1,m2,m3,m4,m5,m6⟩:=bM.cells7;have hW1 : W0.heap.size < W1.heap.size:=(by omega);have BMx:=hid bM;have BF1:=J1.out.b;have hzq:=J1.out.qx.sz;have hzw1:=J1.out.b.size;clear hb1 bM)|(go_at_call 106;(with_reducible refine (HF.out _).mono ?_);rintro e W2 ⟨rfl,hb2⟩;obtain ⟨bS,hzS,B2⟩:=belows1 hb2;have J2:=hid (J1.out.below B2);have c0:=J2.out.qc;have bM:=BMx.out.below B2 BMx.out.sz;have m3:=bM.cell 3;have m4:=bM.cell 4;have m5:=bM.cell 5;have m6:=bM.cell 6;have s0:=bS.cell 0;have s1:=bS.cell 1;have s2:=bS.cell 2;simp at m3 m4 m5 m6 s0 s1 s2;have hW2 : W1.heap.size < W2.heap.size:=(by omega);have hW3 : W0.heap.size < W2.heap.size:=(by omega);have J3:=hid (J2.out.below ((Below.refl W2.heap.size W2).alloc (Nat.le_refl _) (.cells #[.int .i64 tk,.string ⟨tm.toArray⟩] 132)));have c3:=J3.out.qc;have BF2:=J2.out.b;have hzq2:=J2.out.qx.sz;have hzw2:=J2.out.b.size;clear hb2 bM bS)|(go_at_call 107;refine (HE.out _ J3.out (by first|rfl|trivial)).mono ?_;rintro e W3 ⟨rfl,hn3,hB3⟩));go_ret)
    exact ⟨45,HR.out,rfl,fun h=>(by cases h),BLw⟩
   | false =>
    have hN2:=of_decide_eq_false hN.symm
    clear hN
    by_cases h3 : st = 0
    ·subst h3
     by_cases h4 : lc = 0
     ·subst h4
      by_cases h5 : cl = 0
      ·subst h5
       by_cases h6 : hl9 = 0
       ·subst h6
        rw [if_neg (by rintro (h|h);(·exact hN2 h);(·simp at h))] at hX2
        clear hN2
        have HX2:=hid hX2
        clear hX2
        cases bi with
        | true =>
         have h5 : X = 5:=by have:=HX2.out;simpa using this
         subst h5
         clear HX2
         (go_enter Tryz.func104,Tryz.ntmps104;go_wp2_with (first|(go_at_call 105;(with_reducible refine (HK.out _ ?_).mono ?_);exact (J0.out.b.alloc hn0 _);rintro e W1 ⟨rfl,hb1⟩;obtain ⟨bM,hzM,B1⟩:=belows1 hb1;have J1:=hid (J0.out.below B1);have c0:=J1.out.qc;obtain ⟨m0,m1,m2,m3,m4,m5,m6⟩:=bM.cells7;have hW1 : W0.heap.size < W1.heap.size:=(by omega);have BMx:=hid bM;have BF1:=J1.out.b;have hzq:=J1.out.qx.sz;have hzw1:=J1.out.b.size;clear hb1 bM)|(go_at_call 106;(with_reducible refine (HF.out _).mono ?_);rintro e W2 ⟨rfl,hb2⟩;obtain ⟨bS,hzS,B2⟩:=belows1 hb2;have J2:=hid (J1.out.below B2);have c0:=J2.out.qc;have bM:=BMx.out.below B2 BMx.out.sz;have m3:=bM.cell 3;have m4:=bM.cell 4;have m5:=bM.cell 5;have m6:=bM.cell 6;have s0:=bS.cell 0;have s1:=bS.cell 1;have s2:=bS.cell 2;simp at m3 m4 m5 m6 s0 s1 s2;have hW2 : W1.heap.size < W2.heap.size:=(by omega);have hW3 : W0.heap.size < W2.heap.size:=(by omega);have J3:=hid (J2.out.below ((Below.refl W2.heap.size W2).alloc (Nat.le_refl _) (.cells #[.int .i64 tk,.string ⟨tm.toArray⟩] 132)));have c3:=J3.out.qc;have BF2:=J2.out.b;have hzq2:=J2.out.qx.sz;have hzw2:=J2.out.b.size;clear hb2 bM bS)|(go_at_call 107;refine (HE.out _ J3.out (by first|rfl|trivial)).mono ?_;rintro e W3 ⟨rfl,hn3,hB3⟩));go_ret)
         exact ⟨5,HR.out,rfl,fun h=>(by cases h),hB3⟩
        | false =>
         have h5 : X = 0:=by have:=HX2.out;simpa using this
         subst h5
         clear HX2
         (go_enter Tryz.func104,Tryz.ntmps104;go_wp2_with (first|(go_at_call 105;(with_reducible refine (HK.out _ ?_).mono ?_);exact (J0.out.b.alloc hn0 _);rintro e W1 ⟨rfl,hb1⟩;obtain ⟨bM,hzM,B1⟩:=belows1 hb1;have J1:=hid (J0.out.below B1);have c0:=J1.out.qc;obtain ⟨m0,m1,m2,m3,m4,m5,m6⟩:=bM.cells7;have hW1 : W0.heap.size < W1.heap.size:=(by omega);have BMx:=hid bM;have BF1:=J1.out.b;have hzq:=J1.out.qx.sz;have hzw1:=J1.out.b.size;clear hb1 bM)|(go_at_call 106;(with_reducible refine (HF.out _).mono ?_);rintro e W2 ⟨rfl,hb2⟩;obtain ⟨bS,hzS,B2⟩:=belows1 hb2;have J2:=hid (J1.out.below B2);have c0:=J2.out.qc;have bM:=BMx.out.below B2 BMx.out.sz;have m3:=bM.cell 3;have m4:=bM.cell 4;have m5:=bM.cell 5;have m6:=bM.cell 6;have s0:=bS.cell 0;have s1:=bS.cell 1;have s2:=bS.cell 2;simp at m3 m4 m5 m6 s0 s1 s2;have hW2 : W1.heap.size < W2.heap.size:=(by omega);have hW3 : W0.heap.size < W2.heap.size:=(by omega);have J3:=hid (J2.out.below ((Below.refl W2.heap.size W2).alloc (Nat.le_refl _) (.cells #[.int .i64 tk,.string ⟨tm.toArray⟩] 132)));have c3:=J3.out.qc;have BF2:=J2.out.b;have hzq2:=J2.out.qx.sz;have hzw2:=J2.out.b.size;clear hb2 bM bS)|(go_at_call 107;refine (HE.out _ J3.out (by first|rfl|trivial)).mono ?_;rintro e W3 ⟨rfl,hn3,hB3⟩));go_ret)
         exact ⟨0,HR.out,rfl,fun _=>hn3 (by first|rfl|trivial),hB3⟩
       ·rw [if_pos (.inr (by simp [h6]))] at hX2
        subst hX2
        have d1 : decide (0 < (hl9 : Int)) = true:=by simp;omega
        have d2 : decide (0 < hl9) = true:=by simp;omega
        clear hN2 h6
        (go_enter Tryz.func104,Tryz.ntmps104;go_wp2_with (first|(go_at_call 105;(with_reducible refine (HK.out _ ?_).mono ?_);exact (J0.out.b.alloc hn0 _);rintro e W1 ⟨rfl,hb1⟩;obtain ⟨bM,hzM,B1⟩:=belows1 hb1;have J1:=hid (J0.out.below B1);have c0:=J1.out.qc;obtain ⟨m0,m1,m2,m3,m4,m5,m6⟩:=bM.cells7;have hW1 : W0.heap.size < W1.heap.size:=(by omega);have BMx:=hid bM;have BF1:=J1.out.b;have hzq:=J1.out.qx.sz;have hzw1:=J1.out.b.size;clear hb1 bM)|(go_at_call 106;(with_reducible refine (HF.out _).mono ?_);rintro e W2 ⟨rfl,hb2⟩;obtain ⟨bS,hzS,B2⟩:=belows1 hb2;have J2:=hid (J1.out.below B2);have c0:=J2.out.qc;have bM:=BMx.out.below B2 BMx.out.sz;have m3:=bM.cell 3;have m4:=bM.cell 4;have m5:=bM.cell 5;have m6:=bM.cell 6;have s0:=bS.cell 0;have s1:=bS.cell 1;have s2:=bS.cell 2;simp at m3 m4 m5 m6 s0 s1 s2;have hW2 : W1.heap.size < W2.heap.size:=(by omega);have hW3 : W0.heap.size < W2.heap.size:=(by omega);have J3:=hid (J2.out.below ((Below.refl W2.heap.size W2).alloc (Nat.le_refl _) (.cells #[.int .i64 tk,.string ⟨tm.toArray⟩] 132)));have c3:=J3.out.qc;have BF2:=J2.out.b;have hzq2:=J2.out.qx.sz;have hzw2:=J2.out.b.size;clear hb2 bM bS)|(go_at_call 107;refine (HE.out _ J3.out (by first|rfl|trivial)).mono ?_;rintro e W3 ⟨rfl,hn3,hB3⟩));go_ret)
        exact ⟨45,HR.out,rfl,fun h=>(by cases h),BLw⟩
      ·rw [if_pos (.inr (by simp [h5]))] at hX2
       subst hX2
       have d1 : decide (0 < (cl : Int)) = true:=by simp;omega
       have d2 : decide (0 < cl) = true:=by simp;omega
       clear hN2 h5
       (go_enter Tryz.func104,Tryz.ntmps104;go_wp2_with (first|(go_at_call 105;(with_reducible refine (HK.out _ ?_).mono ?_);exact (J0.out.b.alloc hn0 _);rintro e W1 ⟨rfl,hb1⟩;obtain ⟨bM,hzM,B1⟩:=belows1 hb1;have J1:=hid (J0.out.below B1);have c0:=J1.out.qc;obtain ⟨m0,m1,m2,m3,m4,m5,m6⟩:=bM.cells7;have hW1 : W0.heap.size < W1.heap.size:=(by omega);have BMx:=hid bM;have BF1:=J1.out.b;have hzq:=J1.out.qx.sz;have hzw1:=J1.out.b.size;clear hb1 bM)|(go_at_call 106;(with_reducible refine (HF.out _).mono ?_);rintro e W2 ⟨rfl,hb2⟩;obtain ⟨bS,hzS,B2⟩:=belows1 hb2;have J2:=hid (J1.out.below B2);have c0:=J2.out.qc;have bM:=BMx.out.below B2 BMx.out.sz;have m3:=bM.cell 3;have m4:=bM.cell 4;have m5:=bM.cell 5;have m6:=bM.cell 6;have s0:=bS.cell 0;have s1:=bS.cell 1;have s2:=bS.cell 2;simp at m3 m4 m5 m6 s0 s1 s2;have hW2 : W1.heap.size < W2.heap.size:=(by omega);have hW3 : W0.heap.size < W2.heap.size:=(by omega);have J3:=hid (J2.out.below ((Below.refl W2.heap.size W2).alloc (Nat.le_refl _) (.cells #[.int .i64 tk,.string ⟨tm.toArray⟩] 132)));have c3:=J3.out.qc;have BF2:=J2.out.b;have hzq2:=J2.out.qx.sz;have hzw2:=J2.out.b.size;clear hb2 bM bS)|(go_at_call 107;refine (HE.out _ J3.out (by first|rfl|trivial)).mono ?_;rintro e W3 ⟨rfl,hn3,hB3⟩));go_ret)
       exact ⟨45,HR.out,rfl,fun h=>(by cases h),BLw⟩
     ·rw [if_pos (.inr (by simp [h4]))] at hX2
      subst hX2
      have d1 : (lc != 0) = true:=by simpa using h4
      clear hN2 h4
      (go_enter Tryz.func104,Tryz.ntmps104;go_wp2_with (first|(go_at_call 105;(with_reducible refine (HK.out _ ?_).mono ?_);exact (J0.out.b.alloc hn0 _);rintro e W1 ⟨rfl,hb1⟩;obtain ⟨bM,hzM,B1⟩:=belows1 hb1;have J1:=hid (J0.out.below B1);have c0:=J1.out.qc;obtain ⟨m0,m1,m2,m3,m4,m5,m6⟩:=bM.cells7;have hW1 : W0.heap.size < W1.heap.size:=(by omega);have BMx:=hid bM;have BF1:=J1.out.b;have hzq:=J1.out.qx.sz;have hzw1:=J1.out.b.size;clear hb1 bM)|(go_at_call 106;(with_reducible refine (HF.out _).mono ?_);rintro e W2 ⟨rfl,hb2⟩;obtain ⟨bS,hzS,B2⟩:=belows1 hb2;have J2:=hid (J1.out.below B2);have c0:=J2.out.qc;have bM:=BMx.out.below B2 BMx.out.sz;have m3:=bM.cell 3;have m4:=bM.cell 4;have m5:=bM.cell 5;have m6:=bM.cell 6;have s0:=bS.cell 0;have s1:=bS.cell 1;have s2:=bS.cell 2;simp at m3 m4 m5 m6 s0 s1 s2;have hW2 : W1.heap.size < W2.heap.size:=(by omega);have hW3 : W0.heap.size < W2.heap.size:=(by omega);have J3:=hid (J2.out.below ((Below.refl W2.heap.size W2).alloc (Nat.le_refl _) (.cells #[.int .i64 tk,.string ⟨tm.toArray⟩] 132)));have c3:=J3.out.qc;have BF2:=J2.out.b;have hzq2:=J2.out.qx.sz;have hzw2:=J2.out.b.size;clear hb2 bM bS)|(go_at_call 107;refine (HE.out _ J3.out (by first|rfl|trivial)).mono ?_;rintro e W3 ⟨rfl,hn3,hB3⟩));go_ret)
      exact ⟨45,HR.out,rfl,fun h=>(by cases h),BLw⟩
    ·rw [if_pos (.inr (by simp [h3]))] at hX2
     subst hX2
     have d1 : (st != 0) = true:=by simpa using h3
     clear hN2 h3
     (go_enter Tryz.func104,Tryz.ntmps104;go_wp2_with (first|(go_at_call 105;(with_reducible refine (HK.out _ ?_).mono ?_);exact (J0.out.b.alloc hn0 _);rintro e W1 ⟨rfl,hb1⟩;obtain ⟨bM,hzM,B1⟩:=belows1 hb1;have J1:=hid (J0.out.below B1);have c0:=J1.out.qc;obtain ⟨m0,m1,m2,m3,m4,m5,m6⟩:=bM.cells7;have hW1 : W0.heap.size < W1.heap.size:=(by omega);have BMx:=hid bM;have BF1:=J1.out.b;have hzq:=J1.out.qx.sz;have hzw1:=J1.out.b.size;clear hb1 bM)|(go_at_call 106;(with_reducible refine (HF.out _).mono ?_);rintro e W2 ⟨rfl,hb2⟩;obtain ⟨bS,hzS,B2⟩:=belows1 hb2;have J2:=hid (J1.out.below B2);have c0:=J2.out.qc;have bM:=BMx.out.below B2 BMx.out.sz;have m3:=bM.cell 3;have m4:=bM.cell 4;have m5:=bM.cell 5;have m6:=bM.cell 6;have s0:=bS.cell 0;have s1:=bS.cell 1;have s2:=bS.cell 2;simp at m3 m4 m5 m6 s0 s1 s2;have hW2 : W1.heap.size < W2.heap.size:=(by omega);have hW3 : W0.heap.size < W2.heap.size:=(by omega);have J3:=hid (J2.out.below ((Below.refl W2.heap.size W2).alloc (Nat.le_refl _) (.cells #[.int .i64 tk,.string ⟨tm.toArray⟩] 132)));have c3:=J3.out.qc;have BF2:=J2.out.b;have hzq2:=J2.out.qx.sz;have hzw2:=J2.out.b.size;clear hb2 bM bS)|(go_at_call 107;refine (HE.out _ J3.out (by first|rfl|trivial)).mono ?_;rintro e W3 ⟨rfl,hn3,hB3⟩));go_ret)
     exact ⟨45,HR.out,rfl,fun h=>(by cases h),BLw⟩
  ·have hX2:=HX.out
   rw [if_neg (by decide),if_pos h2] at hX2
   subst hX2
   have hd : (X != 0) = true:=by simpa using h2
   have H2:=hid h2
   clear HX h2
   (go_enter Tryz.func104,Tryz.ntmps104;go_wp2_with (first|(go_at_call 105;(with_reducible refine (HK.out _ ?_).mono ?_);exact (J0.out.b.alloc hn0 _);rintro e W1 ⟨rfl,hb1⟩;obtain ⟨bM,hzM,B1⟩:=belows1 hb1;have J1:=hid (J0.out.below B1);have c0:=J1.out.qc;obtain ⟨m0,m1,m2,m3,m4,m5,m6⟩:=bM.cells7;have hW1 : W0.heap.size < W1.heap.size:=(by omega);have BMx:=hid bM;have BF1:=J1.out.b;have hzq:=J1.out.qx.sz;have hzw1:=J1.out.b.size;clear hb1 bM)|(go_at_call 106;(with_reducible refine (HF.out _).mono ?_);rintro e W2 ⟨rfl,hb2⟩;obtain ⟨bS,hzS,B2⟩:=belows1 hb2;have J2:=hid (J1.out.below B2);have c0:=J2.out.qc;have bM:=BMx.out.below B2 BMx.out.sz;have m3:=bM.cell 3;have m4:=bM.cell 4;have m5:=bM.cell 5;have m6:=bM.cell 6;have s0:=bS.cell 0;have s1:=bS.cell 1;have s2:=bS.cell 2;simp at m3 m4 m5 m6 s0 s1 s2;have hW2 : W1.heap.size < W2.heap.size:=(by omega);have hW3 : W0.heap.size < W2.heap.size:=(by omega);have J3:=hid (J2.out.below ((Below.refl W2.heap.size W2).alloc (Nat.le_refl _) (.cells #[.int .i64 tk,.string ⟨tm.toArray⟩] 132)));have c3:=J3.out.qc;have BF2:=J2.out.b;have hzq2:=J2.out.qx.sz;have hzw2:=J2.out.b.size;clear hb2 bM bS)|(go_at_call 107;refine (HE.out _ J3.out (by first|rfl|trivial)).mono ?_;rintro e W3 ⟨rfl,hn3,hB3⟩));go_ret)
   exact ⟨X,HR.out,rfl,fun h=>absurd h H2.out,BLw⟩
 ·have hX2:=HX.out
  rw [if_pos h1] at hX2
  subst hX2
  have hd : (X != 0) = true:=by simpa using h1
  have H1:=hid h1
  clear HX h1
  (go_enter Tryz.func104,Tryz.ntmps104;go_wp2_with (first|(go_at_call 105;(with_reducible refine (HK.out _ ?_).mono ?_);exact (J0.out.b.alloc hn0 _);rintro e W1 ⟨rfl,hb1⟩;obtain ⟨bM,hzM,B1⟩:=belows1 hb1;have J1:=hid (J0.out.below B1);have c0:=J1.out.qc;obtain ⟨m0,m1,m2,m3,m4,m5,m6⟩:=bM.cells7;have hW1 : W0.heap.size < W1.heap.size:=(by omega);have BMx:=hid bM;have BF1:=J1.out.b;have hzq:=J1.out.qx.sz;have hzw1:=J1.out.b.size;clear hb1 bM)|(go_at_call 106;(with_reducible refine (HF.out _).mono ?_);rintro e W2 ⟨rfl,hb2⟩;obtain ⟨bS,hzS,B2⟩:=belows1 hb2;have J2:=hid (J1.out.below B2);have c0:=J2.out.qc;have bM:=BMx.out.below B2 BMx.out.sz;have m3:=bM.cell 3;have m4:=bM.cell 4;have m5:=bM.cell 5;have m6:=bM.cell 6;have s0:=bS.cell 0;have s1:=bS.cell 1;have s2:=bS.cell 2;simp at m3 m4 m5 m6 s0 s1 s2;have hW2 : W1.heap.size < W2.heap.size:=(by omega);have hW3 : W0.heap.size < W2.heap.size:=(by omega);have J3:=hid (J2.out.below ((Below.refl W2.heap.size W2).alloc (Nat.le_refl _) (.cells #[.int .i64 tk,.string ⟨tm.toArray⟩] 132)));have c3:=J3.out.qc;have BF2:=J2.out.b;have hzq2:=J2.out.qx.sz;have hzw2:=J2.out.b.size;clear hb2 bM bS)|(go_at_call 107;refine (HE.out _ J3.out (by first|rfl|trivial)).mono ?_;rintro e W3 ⟨rfl,hn3,hB3⟩));go_ret)
  exact ⟨X,HR.out,rfl,fun h=>absurd h H1.out,BLw⟩
end Go.Proofs.YtnojgiflgmnjlaaGreatDoor
namespace Go.Proofs.YtnojgiflgmnjlaaGreatDoor
open Go.RowKit
set_option maxHeartbeats 2000000 in
theorem firstF_any (w0 : World) (vs : Array Value) (c : Cf.Cl) (ms : List Cf.Mb) (mv : Value) (cb qb mb : Nat) (W0 : World) (hP : ∀ x ∈ c.pool,x.s.size ≤ 140737488355328) (hl : ms.length < maxLen) (hv : MsR w0 mv ms) (hj : MJ w0 vs c ms cb qb mb 0 W0) :
  Calls Tryz.prog 103 #[mv,.func (.func 104) #[] #[.pointer (some ⟨cb,0,none⟩),.pointer (some ⟨qb,0,none⟩)]] W0 fun e W'=>∃ er,Cf.FstR (Cf.FdIs c.pool ms) ms.length er ∧ e = .returned (.int .i64 er) ∧ Below w0.heap.size w0 W':=by
 have HA:=hid (fun k m cv hv W (hk : ms[k]? = some m) (hj : MJ w0 vs c ms cb qb mb k W) hcv hhv=>askField_any w0 vs c ms cb qb mb k m cv hv W hP hl hk hj hcv hhv)
 have HV:=hid (fun W (h : Below w0.heap.size w0 W)=>hv.below h (Nat.le_refl _))
 obtain ⟨a,cap,rfl⟩:=hv.len
 have J00:=hid hj
 have HL:=hid hv.size
 unfold AskPost mbV at HA
 clear hv hj hP hl
 go_enter Tryz.func103,Tryz.ntmps103
 go_wp2
 go_loopw [10] (fun i wr=>∃ k : Nat,k ≤ ms.length ∧ i = .int .i64 k ∧ MJ w0 vs c ms cb qb mb k wr ∧ ∀ j,j < k → Cf.FdIs c.pool ms j 0) (fun i _=>ms.length - (intOf i).toNat)
 case atStart=>exact ⟨0,by omega,rfl,J00.out,fun j hj=>by omega⟩
 case round =>
  obtain ⟨k,hk,rfl,hJ,hall⟩:=hrel
  have HAll:=hid hall
  have hsz:=HL.out
  have HJ:=hid hJ
  by_cases hlt : k < ms.length
  ·obtain ⟨⟨ac,nm,ds,st,lc,co,hs9⟩,hx⟩ : ∃ x,ms[k]? = some x:=⟨ms[k],List.getElem?_eq_getElem hlt⟩
   obtain ⟨b,o,cap',cv,hw,hv2,hbb,hB,hH,hl,c0,c1,c2,c3,c4,c5,c6⟩:=(HV.out wr hJ.b).at hx
   obtain ⟨rfl,-,rfl⟩:=Value.slice.inj hv2
   have hki : (k : Int) < (ms.length : Int):=by omega
   have HX:=hid hx
   dsimp only at c0 c1 c2 c3 c4 c5 c6
   obtain ⟨xa,xc,rfl⟩:=hB.len
   obtain ⟨ya,yc,rfl⟩:=hH.len
   have HCv:=hid (show ∃ a cap,Value.slice xa co.length xc = .slice a co.length cap from ⟨_,_,rfl⟩)
   have HHv:=hid (show ∃ a cap,Value.slice ya hs9.length yc = .slice a hs9.length cap from ⟨_,_,rfl⟩)
   have HBh:=hid (And.intro hB (And.intro hH hl))
   clear hx hv2 hall hJ hB hH
   go_wp2_with (go_at_call 104;refine (HA.out k ⟨ac,nm,ds,st,lc,co,hs9⟩ _ _ _ HX.out (HJ.out.below ((Below.refl wr.heap.size wr).alloc (Nat.le_refl _) _)) HCv.out HHv.out).mono ?_;rintro e W1 ⟨er,hR,rfl,hn,hB1⟩;have HR:=hid hR;have HN:=hid hn;by_cases hz : er = 0;all_goals (first|(subst hz;clear hR hn)|(have hd : (er != 0) = true:=(by simpa using hz);have HZ:=hid hz;clear hz hR hn)))
   ·go_roundw
    case rel=>exact ⟨k + 1,by omega,by go_num,HN.out (by first|rfl|trivial),fun j hj=>by
     by_cases e : j = k
     ·subst e;exact HR.out
     ·exact HAll.out j (by omega)⟩
    case measure=>simp [intOf];omega
   ·go_ret
    exact ⟨_,Cf.FstR.at HAll.out hlt HR.out HZ.out,rfl,hB1⟩
  ·obtain rfl : k = ms.length:=by omega
   have hb:=HJ.out.b
   clear hJ hall
   go_wp2
   go_ret
   exact ⟨0,Cf.FstR.all HAll.out,rfl,hb⟩
set_option maxHeartbeats 1000000 in
theorem checkFields_any (c : Cf.Cl) (vs : Array Value) (w : World) (h : ClR w vs c) (hP : ∀ x ∈ c.pool,x.s.size ≤ 140737488355328) :
  Calls Tryz.prog 52 #[.agg vs] w fun e w'=>∃ er,Cf.FstR (Cf.FdIs c.pool c.fs) c.fs.length er ∧ e = .returned (.int .i64 er) ∧ Below w.heap.size w w':=by
 obtain ⟨pv,fv,mv,rfl,hp,hf,hm⟩:=h
 have hcl : ClR w #[.int .i64 c.mi,.int .i64 c.ma,pv,.int .i64 c.ac,.int .i64 c.th,.int .i64 c.su,fv,mv] c:=⟨pv,fv,mv,rfl,hp,hf,hm⟩
 have hl : c.fs.length < maxLen:=by have:=hf.size;unfold maxLen;omega
 have HF:=hid (fun W (hj : MJ w #[.int .i64 c.mi,.int .i64 c.ma,pv,.int .i64 c.ac,.int .i64 c.th,.int .i64 c.su,fv,mv] c c.fs w.heap.size (w.heap.size + 1 + 1) (w.heap.size + 1) 0 W)=>firstF_any w _ c c.fs fv w.heap.size (w.heap.size + 1 + 1) (w.heap.size + 1) W hP hl hf hj)
 have hj0 : MJ w #[.int .i64 c.mi,.int .i64 c.ma,pv,.int .i64 c.ac,.int .i64 c.th,.int .i64 c.su,fv,mv] c c.fs w.heap.size (w.heap.size + 1 + 1) (w.heap.size + 1) 0 (((w.alloc (.cells #[.int .i64 c.mi,.int .i64 c.ma,pv,.int .i64 c.ac,.int .i64 c.th,.int .i64 c.su,fv,mv] 26)).alloc (.map #[] 0)).alloc (.cells #[.map (some (w.heap.size + 1))] 129)):=by
  refine ⟨BLw,hcl,?_,?_,?_,Nat.le_refl _,by omega,by omega,by omega,by omega⟩
  ·exact ((L3.BX.new w _ _).below (n:=w.heap.size + 1) ((Below.refl _ _).alloc (by simp) _) (by omega)).below (n:=w.heap.size + 1) ((Below.refl _ _).alloc (by simp) _) (by omega)
  ·have:=L3.BX.new ((w.alloc (.cells #[.int .i64 c.mi,.int .i64 c.ma,pv,.int .i64 c.ac,.int .i64 c.th,.int .i64 c.su,fv,mv] 26)).alloc (.map #[] 0)) #[.map (some (w.heap.size + 1))] 129
   simpa using this
  ·have:=NmM.new (w.alloc (.cells #[.int .i64 c.mi,.int .i64 c.ma,pv,.int .i64 c.ac,.int .i64 c.th,.int .i64 c.su,fv,mv] 26))
   simp only [World.size_alloc] at this
   exact this.keep (((Below.refl _ _).alloc (Nat.le_refl _) _).block _ (by simp))
 have HJ0:=hid hj0
 have hmm:=@run_makeMap Tryz.prog
 clear hj0 hcl hp hP hl
 obtain ⟨fa,fc,rfl⟩:=hf.len
 obtain ⟨ma2,mc,rfl⟩:=hm.len
 clear hf hm
 go_enter Tryz.func52,Tryz.ntmps52
 go_wp2_with (go_at_call 103;refine (HF.out _ HJ0.out).mono ?_;rintro e W1 ⟨er,hR,rfl,hB1⟩)
 go_ret
 exact ⟨_,hR,rfl,hB1⟩
end Go.Proofs.YtnojgiflgmnjlaaGreatDoor
namespace Go.Proofs.YtnojgiflgmnjlaaGreatDoor
open Go.RowKit
def rngB (l : List L1.Op1.Ins) (n : Nat) (h : Cf.Hn) : Bool:=decide (h.f < h.t) && (Cf.begB l h.f && (Cf.begB l h.a && (Cf.begB l h.t || h.t == (n : Int))))
theorem hdE_eq (P : List L3.Cp.C) (l : List L1.Op1.Ins) (n : Nat) (h : Cf.Hn) : Cf.hdE P l n h = if rngB l n h = true then (if h.y = 0 then 0 else Cf.claE P h.y) else 46:=by
 unfold Cf.hdE rngB
 congr 1
 simp
def BgR (w : World) (bv : Value) (l : List L1.Op1.Ins) (n : Nat) : Prop:=Kit.IsS 1 w bv n ((List.range n).map fun i : Nat=>Value.bool (Cf.begB l (i : Int)))
def InR (l : List L1.Op1.Ins) (n : Nat) : Prop:=∀ x ∈ l,0 ≤ x.p ∧ x.p < (n : Int)
theorem beg_in {l : List L1.Op1.Ins} {n : Nat} (h : InR l n) {p : Int} (hb : Cf.begB l p = true) : 0 ≤ p ∧ p < (n : Int):=by
 unfold Cf.begB at hb
 rw [List.any_eq_true] at hb
 obtain ⟨x,hx,he⟩:=hb
 have:=h x hx
 have:=eq_of_beq he
 omega
theorem isAt_any (qb : Nat) (bv : Value) (l : List L1.Op1.Ins) (n : Nat) (p : Int) (w : World) (hl : InR l n) (hb : BgR w bv l n) (hx : L3.BX w qb #[bv] 190) :
  Calls Tryz.prog 180 #[.int .i64 p,.pointer (some ⟨qb,0,none⟩)] w fun e w'=>e = .returned (.bool (Cf.begB l p)) ∧ w = w':=by
 have c0:=hx.cell 0
 simp at c0
 obtain ⟨a,cap,rfl⟩:=hb.len
 by_cases h1 : 0 ≤ p ∧ p < (n : Int)
 ·obtain ⟨k,rfl⟩:=Int.eq_ofNat_of_zero_le h1.1
  have hk : k < n:=by omega
  obtain ⟨b,o,cap',hv,-,-,hc⟩:=hb.some (by omega)
  obtain ⟨rfl,-,-⟩:=Value.slice.inj hv
  have ck:=hc k (.bool (Cf.begB l (k : Int))) (by rw [List.getElem?_map,List.getElem?_range hk];rfl)
  have hki : (k : Int) < (n : Int):=by omega
  obtain ⟨x,hx2⟩ : ∃ x,x = Cf.begB l (k : Int):=⟨_,rfl⟩
  rw [← hx2] at ck ⊢
  clear hx2 hc hb hl hv
  go_enter Tryz.func180,Tryz.ntmps180
  go_wp2
  all_goals go_ret
  all_goals exact ⟨rfl,rfl⟩
 ·have hf : Cf.begB l p = false:=by
   cases h : Cf.begB l p with
   | false=>rfl
   | true=>exact absurd (beg_in hl h) h1
  rw [hf]
  by_cases h2 : 0 ≤ p
  ·have d1 : decide (0 ≤ p) = true:=by simp [h2]
   have d2 : decide (p < (n : Int)) = false:=by simp;omega
   clear h1 hf hb hl
   go_enter Tryz.func180,Tryz.ntmps180
   go_wp2
   all_goals go_ret
   all_goals exact ⟨rfl,rfl⟩
  ·have d1 : decide (0 ≤ p) = false:=by simp;omega
   clear h1 hf hb hl h2
   go_enter Tryz.func180,Tryz.ntmps180
   go_wp2
   all_goals go_ret
   all_goals exact ⟨rfl,rfl⟩
set_option maxHeartbeats 1000000 in
theorem isRange_any (bv : Value) (l : List L1.Op1.Ins) (n : Nat) (h : Cf.Hn) (w : World) (hl : InR l n) (hb : BgR w bv l n) :
  Calls Tryz.prog 156 #[hnV h,bv] w fun e w'=>e = .returned (.bool (rngB l n h)) ∧ Below w.heap.size w w':=by
 have HI:=hid (fun p=>isAt_any (w.heap.size + 1) bv l n p ((w.alloc (.cells #[.int .i64 h.f,.int .i64 h.t,.int .i64 h.a,.int .i64 h.y] 58)).alloc (.cells #[bv] 190)) hl (hb.below BLw (Nat.le_refl _)) (by have:=L3.BX.new (w.alloc (.cells #[.int .i64 h.f,.int .i64 h.t,.int .i64 h.a,.int .i64 h.y] 58)) #[bv] 190;simpa using this))
 obtain ⟨a,cap,rfl⟩:=hb.len
 unfold rngB hnV
 obtain ⟨f,t,at0,y⟩:=h
 dsimp only at HI ⊢
 obtain ⟨b1,e1⟩ : ∃ b,b = Cf.begB l f:=⟨_,rfl⟩
 obtain ⟨b2,e2⟩ : ∃ b,b = Cf.begB l at0:=⟨_,rfl⟩
 obtain ⟨b3,e3⟩ : ∃ b,b = Cf.begB l t:=⟨_,rfl⟩
 rw [← e1,← e2,← e3]
 have E1:=hid (e1 ▸ HI.out f)
 have E2:=hid (e2 ▸ HI.out at0)
 have E3:=hid (e3 ▸ HI.out t)
 have hmf:=L3.A.mkF
 clear HI hl hb e1 e2 e3
 go_enter Tryz.func156,Tryz.ntmps156
 go_wp2_with (go_at_call 180;first|((with_reducible refine E1.out.mono ?_);rintro e _ ⟨rfl,rfl⟩)|((with_reducible refine E2.out.mono ?_);rintro e _ ⟨rfl,rfl⟩)|((with_reducible refine E3.out.mono ?_);rintro e _ ⟨rfl,rfl⟩))
 all_goals go_ret
 all_goals exact ⟨by first|(simp [*];done)|(simp [*];intros;omega),BLw⟩
set_option maxHeartbeats 1000000 in
theorem askHandler_any (P : List L3.Cp.C) (pv bv : Value) (l : List L1.Op1.Ins) (n qb pb : Nat) (h : Cf.Hn) (w : World) (hl : InR l n) (hb : BgR w bv l n) (hq : L3.BX w qb #[bv] 190) (hx : L3.BX w pb #[pv] 23) (hp : Kit.IsS 5 w pv P.length (P.flatMap L3.cL)) :
  Calls Tryz.prog 155 #[hnV h,.pointer (some ⟨qb,0,none⟩),.pointer (some ⟨pb,0,none⟩)] w fun e w'=>e = .returned (.int .i64 (Cf.hdE P l n h)) ∧ Below w.heap.size w w':=by
 rw [hdE_eq]
 have HR:=hid (fun W (k : Below w.heap.size w W)=>isRange_any bv l n h W hl (hb.below k (Nat.le_refl _)))
 have HC:=hid (fun W (k : Below w.heap.size w W)=>checkClassAt_any P h.y pv W (hp.below k (Nat.le_refl _)))
 obtain ⟨b,hbb⟩ : ∃ b,b = rngB l n h:=⟨_,rfl⟩
 rw [← hbb] at HR ⊢
 have c0:=hq.cell 0
 have c1:=hx.cell 0
 simp at c0 c1
 have hz1:=hq.sz
 have hz2:=hx.sz
 obtain ⟨ba,bc,rfl⟩:=hb.len
 obtain ⟨pa,pc,rfl⟩:=hp.len
 obtain ⟨f,t,at0,y⟩:=h
 unfold hnV at HR ⊢
 dsimp only at HR HC ⊢
 obtain ⟨pl,hpl⟩ : ∃ pl,pl = P.length:=⟨_,rfl⟩
 rw [← hpl] at HC c1
 obtain ⟨ce,hce⟩ : ∃ ce,ce = Cf.claE P y:=⟨_,rfl⟩
 rw [← hce] at HC ⊢
 clear hl hb hq hx hp hbb hpl hce
 cases b with
 | false =>
  rw [if_neg (by decide)]
  go_enter Tryz.func155,Tryz.ntmps155
  go_wp2_with (go_at_call 156;refine (HR.out _ BLw).mono ?_;rintro e w1 ⟨rfl,hb1⟩;have B1:=(belows1 hb1).2.2)
  go_ret
  exact ⟨rfl,B1⟩
 | true =>
  rw [if_pos rfl]
  by_cases hy : y = 0
  ·subst hy
   rw [if_pos rfl]
   go_enter Tryz.func155,Tryz.ntmps155
   go_wp2_with (go_at_call 156;refine (HR.out _ BLw).mono ?_;rintro e w1 ⟨rfl,hb1⟩;obtain ⟨bH,hzH,B1⟩:=belows1 hb1;have h3:=bH.cell 3;simp at h3)
   go_ret
   exact ⟨rfl,B1⟩
  ·rw [if_neg hy]
   have hd : (y == 0) = false:=by simpa using hy
   clear hy
   go_enter Tryz.func155,Tryz.ntmps155
   go_wp2_with (first
    | (go_at_call 156;refine (HR.out _ BLw).mono ?_;rintro e w1 ⟨rfl,hb1⟩;obtain ⟨bH,hzH,B1⟩:=belows1 hb1;have h3:=bH.cell 3;simp at h3;have c1:=(B1.cell (p:=⟨pb,0,none⟩) (by simpa using hz2)).trans c1)
    | (go_at_call 102;refine (HC.out _ B1).mono ?_;rintro e w2 ⟨rfl,hb2⟩;have B2:=belows B1 hb2 B1.size))
   go_ret
   exact ⟨rfl,B2⟩
set_option maxHeartbeats 2000000 in
theorem firstH_any (P : List L3.Cp.C) (pv bv hv : Value) (l : List L1.Op1.Ins) (n qb pb : Nat) (hs : List Cf.Hn) (w : World) (hl : InR l n) (hb : BgR w bv l n) (hq : L3.BX w qb #[bv] 190) (hx : L3.BX w pb #[pv] 23) (hp : Kit.IsS 5 w pv P.length (P.flatMap L3.cL)) (hh : Kit.IsS 4 w hv hs.length (hs.flatMap hL)) :
  Calls Tryz.prog 154 #[hv,.func (.func 155) #[] #[.pointer (some ⟨qb,0,none⟩),.pointer (some ⟨pb,0,none⟩)]] w fun e w'=>∃ er,Cf.FstR (Cf.HnIs P l n hs) hs.length er ∧ e = .returned (.int .i64 er) ∧ Below w.heap.size w w':=by
 have HA:=hid (fun h W (k : Below w.heap.size w W)=>askHandler_any P pv bv l n qb pb h W hl (hb.below k (Nat.le_refl _)) (hq.below k hq.sz) (hx.below k hx.sz) (hp.below k (Nat.le_refl _)))
 have HV:=hid (fun W (k : Below w.heap.size w W)=>hh.below k (Nat.le_refl _))
 obtain ⟨a,cap,rfl⟩:=hh.len
 have HL:=hid hh.2.1
 unfold hnV at HA
 clear hl hb hq hx hp hh
 go_enter Tryz.func154,Tryz.ntmps154
 go_wp2
 go_loopw [10] (fun i wr=>∃ k : Nat,k ≤ hs.length ∧ i = .int .i64 k ∧ Below w.heap.size w wr ∧ ∀ j,j < k → Cf.HnIs P l n hs j 0) (fun i _=>hs.length - (intOf i).toNat)
 case atStart=>exact ⟨0,by omega,rfl,BLw,fun j hj=>by omega⟩
 case round =>
  obtain ⟨k,hk,rfl,hJ,hall⟩:=hrel
  have HAll:=hid hall
  have hsz:=HL.out
  have hzw:=hJ.size
  by_cases hlt : k < hs.length
  ·obtain ⟨⟨f,t,at0,y⟩,hx⟩ : ∃ x,hs[k]? = some x:=⟨hs[k],List.getElem?_eq_getElem hlt⟩
   obtain ⟨b,o,cap',hv2,hbb,c0,c1,c2,c3⟩:=h_at (HV.out wr hJ) hx
   obtain ⟨rfl,-,rfl⟩:=Value.slice.inj hv2
   have hki : (k : Int) < (hs.length : Int):=by omega
   dsimp only at c0 c1 c2 c3
   have HR0:=hid (show Cf.HnIs P l n hs k (Cf.hdE P l n ⟨f,t,at0,y⟩) from ⟨_,hx,rfl⟩)
   have HA1:=HA.out ⟨f,t,at0,y⟩
   dsimp only at HA1
   obtain ⟨er,her⟩ : ∃ er,er = Cf.hdE P l n ⟨f,t,at0,y⟩:=⟨_,rfl⟩
   rw [← her] at HR0 HA1
   have HA2:=hid HA1
   clear hx hv2 hall HA1 her
   by_cases hz : er = 0
   ·subst hz
    go_wp2_with (go_at_call 155;refine (HA2.out _ BLw).mono ?_;rintro e W1 ⟨rfl,hb1⟩;have B1:=belows (B:=w.heap.size) (a:=w) BLw hb1 (by simp only [World.size_alloc];omega))
    go_roundw
    case rel=>exact ⟨k + 1,by omega,by go_num,B1,fun j hj=>by
     by_cases e : j = k
     ·subst e;exact HR0.out
     ·exact HAll.out j (by omega)⟩
    case measure=>simp [intOf];omega
   ·have hd : (er != 0) = true:=by simpa using hz
    have HZ:=hid hz
    clear hz
    go_wp2_with (go_at_call 155;refine (HA2.out _ BLw).mono ?_;rintro e W1 ⟨rfl,hb1⟩;have B1:=belows (B:=w.heap.size) (a:=w) BLw hb1 (by simp only [World.size_alloc];omega))
    go_ret
    exact ⟨_,Cf.FstR.at HAll.out hlt HR0.out HZ.out,rfl,B1⟩
  ·obtain rfl : k = hs.length:=by omega
   have hb:=hJ
   clear hall
   go_wp2
   go_ret
   exact ⟨0,Cf.FstR.all HAll.out,rfl,hb⟩
end Go.Proofs.YtnojgiflgmnjlaaGreatDoor
namespace Go.Proofs.YtnojgiflgmnjlaaGreatDoor
open Go.RowKit
theorem begB_snoc {l : List L1.Op1.Ins} {k : Nat} {x : L1.Op1.Ins} (h : l[k]? = some x) (p : Int) : Cf.begB (l.take (k + 1)) p = (Cf.begB (l.take k) p || x.p == p):=by
 unfold Cf.begB
 rw [List.take_add_one,h,List.any_append]
 simp
def BgS (w : World) (g n : Nat) (l : List L1.Op1.Ins) : Prop:=(∃ arr,w.heap[g]? = some (.cells arr 4 (0,0))) ∧ ∀ i,i < n → w.cell? ⟨g,i,none⟩ = some (.bool (Cf.begB l (i : Int)))
theorem BgS.below {w w' : World} {g n B : Nat} {l : List L1.Op1.Ins} (h : BgS w g n l) (hb : Below B w w') (hg : g < B) : BgS w' g n l:=by
 obtain ⟨⟨arr,h1⟩,h2⟩:=h
 exact ⟨⟨arr,(hb.block g hg).trans h1⟩,fun i hi=>(hb.cell (p:=⟨g,i,none⟩) (by simpa using hg)).trans (h2 i hi)⟩
theorem BgS.lt {w : World} {g n : Nat} {l : List L1.Op1.Ins} (h : BgS w g n l) : g < w.heap.size:=by
 obtain ⟨⟨arr,h1⟩,-⟩:=h
 exact (Array.getElem?_eq_some_iff.1 h1).1
theorem BgS.frozen {w : World} {g n : Nat} {l : List L1.Op1.Ins} (h : BgS w g n l) (i : Nat) : w.frozen? ⟨g,i,none⟩ = false:=by
 obtain ⟨⟨arr,h1⟩,-⟩:=h
 simp [World.frozen?,h1]
theorem BgS.step {w : World} {g n k : Nat} {l : List L1.Op1.Ins} {x : L1.Op1.Ins} (h : BgS w g n (l.take k)) (hx : l[k]? = some x) {p : Nat} (hp : x.p = (p : Int)) : BgS (w.setCell ⟨g,p,none⟩ (.bool true)) g n (l.take (k + 1)):=by
 obtain ⟨⟨arr,h1⟩,h2⟩:=h
 refine ⟨⟨arr.setIfInBounds p (.bool true),?_⟩,fun i hi=>?_⟩
 ·obtain ⟨hlt,hk⟩:=Array.getElem?_eq_some_iff.1 h1
  show (w.heap.modify g _)[g]? = _
  rw [Array.getElem?_eq_getElem (by rw [Array.size_modify];exact hlt),Array.getElem_modify_self,hk]
  rfl
 ·rw [Kit.cell_set (h2 i hi),begB_snoc hx,hp]
  congr 1
  by_cases e : p = i
  ·subst e;simp
  ·have : ((p : Int) == (i : Int)) = false:=by rw [beq_eq_false_iff_ne];intro h;exact e (by omega)
   rw [if_neg e,this,Bool.or_false]
theorem BgS.reads {w : World} {g n cap : Nat} {l : List L1.Op1.Ins} (h : BgS w g n l) (hn : n ≤ 140737488355328) (hc : n ≤ cap) : BgR w (.slice (some ⟨g,0,none⟩) n cap) l n:=by
 refine ⟨by simp,hn,.inr ⟨g,0,cap,rfl,hc,h.lt,fun i u hi=>?_⟩⟩
 rw [List.getElem?_map,Option.map_eq_some_iff] at hi
 obtain ⟨j,hj,rfl⟩:=hi
 obtain ⟨hlt,rfl⟩:=List.getElem?_eq_some_iff.1 hj
 rw [List.length_range] at hlt
 rw [List.getElem_range,Nat.zero_add]
 exact h.2 i hlt
theorem infoBool : (Tryz.prog.info? 4).map (fun i=>(i.zero,i.size,i.bytes)) = some (some (.bool false),1,1):=by kernel_rfl
theorem made_bool (n : Nat) : ∀ i,i < n → (madeCells (Value.bool false).cells (n * 1)).toList[i]? = some (.bool false):=by
 intro i hi
 have h:=L1.made_at (n * 1) i (by omega)
 rw [Array.getElem?_toList]
 exact h
theorem begS_new {w : World} {base g n : Nat} (h : w.ownsRow base 4 1 (.slice (some ⟨g,0,none⟩) n n) n (madeCells (Value.bool false).cells (n * 1)).toList) (hn : n ≤ 140737488355328) : BgS w g n ([] : List L1.Op1.Ins):=by
 constructor
 ·rcases h.2 with ⟨h1,-⟩|⟨g',cap,cur,h1,-,hh,-⟩
  ·cases h1
  ·obtain ⟨h2,-,-⟩:=Value.slice.inj h1
   obtain rfl : g = g':=by simpa using h2
   exact ⟨cur,hh⟩
 ·intro i hi
  rcases (Kit.isS_of_owns h hn).2.2 with ⟨h0,-⟩|⟨b,o,cap,hv,-,-,hc⟩
  ·omega
  ·obtain ⟨h2,-,-⟩:=Value.slice.inj hv
   have h3:=hc i _ (made_bool n i hi)
   have h4 : g = b ∧ 0 = o:=by simpa using h2
   obtain ⟨rfl,rfl⟩:=h4
   rw [Nat.zero_add] at h3
   exact h3
theorem dec_in {bs : List UInt8} {l : List L1.Op1.Ins} {d : Int} (h : L1.Op1.DecOut bs l d) (hd : d = 0) : InR l bs.length ∧ l.length ≤ 4096 ∧ bs.length ≤ 4096:=by
 cases h with
 | long h1=>cases hd
 | none h1=>cases hd
 | jump h1 h2 h3 h4=>cases hd
 | bad h1 h2 h3 h4=>exact absurd hd h4
 | ok h1 h2 h3 h4 =>
  obtain ⟨a,b,c⟩:=h3.le
  exact ⟨c,by omega,h1⟩
set_option maxHeartbeats 2000000 in
theorem checkCode_any (P : List L3.Cp.C) (pv : Value) (m : Cf.Mb) (cv hv : Value) (w : World) (ht : L1.Tabs w) (hp : Kit.IsS 5 w pv P.length (P.flatMap L3.cL)) (hB : L3.Bs w.heap.size w cv m.code) (hH : Kit.IsS 4 w hv m.hs.length (m.hs.flatMap hL)) (hc : m.code.length ≤ 140737488355328) :
  Calls Tryz.prog 112 #[pv,mbV m cv hv] w fun e w'=>∃ er,Cf.CoIs P m er ∧ e = .returned (.int .i64 er) ∧ Below w.heap.size w w':=by
 have HD:=hid (fun W (k : Below w.heap.size w W)=>L1.decode_any m.code cv W (ht.below k ht.size) (isB_of_bs ((hB.below k (Nat.le_refl _)).mono k.size) hc))
 have HF:=hid (fun bv l n qb W (k : Below w.heap.size w W) hl hb hq hx=>firstH_any P pv bv hv l n qb w.heap.size m.hs W hl hb hq hx (hp.below k (Nat.le_refl _)) (hH.below k (Nat.le_refl _)))
 have HO:=hid (fun er l d (h1 : L1.Op1.DecOut m.code l d) h2=>(⟨l,d,h1,h2⟩ : Cf.CoIs P m er))
 obtain ⟨i0,hi,hz0,hz1,hz2⟩:=info_parts infoBool
 obtain ⟨xa,xc,rfl⟩:=hB.len
 obtain ⟨ya,yc,rfl⟩:=hH.len
 obtain ⟨pa,pc,rfl⟩:=hp.len
 have hhl:=hH.2.1
 obtain ⟨ac,nm,ds,st,lc,co,hs9⟩:=m
 unfold mbV
 dsimp only at HD HF HO hhl ⊢
 unfold L1.DecPost at HD
 have hmf:=L3.A.mkF
 clear ht hp hB hH hc
 by_cases h64 : 64 < hs9.length
 ·have d64 : decide (64 < (hs9.length : Int)) = true:=by simp;omega
  have d65 : decide (64 < hs9.length) = true:=by simpa using h64
  go_enter Tryz.func112,Tryz.ntmps112
  go_wp2_with (go_at_call 153;refine (HD.out _ BLw).mono ?_;rintro e w1 ⟨lv,l,d,rfl,hd,ho,hb1⟩;obtain ⟨la,lc2,rfl⟩:=L3.own_form ho;obtain ⟨bP,bM,hzM,B1⟩:=boxes2 hb1;have m5:=bM.cell 5;have m6:=bM.cell 6;simp at m5 m6;have HDd:=hid hd;by_cases hz : d = 0;all_goals (first|(subst hz;clear hd ho)|(have hdd : (d != 0) = true:=(by simpa using hz);have HZ:=hid hz;clear hz hd ho)))
  ·go_ret
   exact ⟨3,HO.out 3 l 0 HDd.out (by rw [if_neg (by decide),if_pos h64]),rfl,B1⟩
  ·go_ret
   exact ⟨d,HO.out d l d HDd.out (by rw [if_pos HZ.out]),rfl,B1⟩
 ·have d64 : decide (64 < (hs9.length : Int)) = false:=by simp;omega
  have d65 : decide (64 < hs9.length) = false:=by simpa using h64
  go_enter Tryz.func112,Tryz.ntmps112
  go_wp2_with (first
   | (go_at_call 153;refine (HD.out _ BLw).mono ?_;rintro e w1 ⟨lv,l,d,rfl,hd,ho,hb1⟩;obtain ⟨la,lc2,rfl⟩:=L3.own_form ho;obtain ⟨bP,bM,hzM,B1⟩:=boxes2 hb1;have m5:=bM.cell 5;have m6:=bM.cell 6;simp at m5 m6;have HDd:=hid hd;by_cases hz : d = 0;all_goals (first|(subst hz;have hin:=dec_in hd rfl;have HIn:=hid hin.1;have hll:=hin.2.1;have hcl:=hin.2.2;have hIS:=Kit.isS_of_owns ho (by omega);have HIS:=hid hIS;clear hd ho hin hIS)|(have hdd : (d != 0) = true:=(by simpa using hz);have HZ:=hid hz;clear hz hd ho)))
   | (at_make;refine wpList_make_full _ rfl _ _ 190 rfl w.heap.size 4 i0 _ 1 Tryz.underlying190 hi hz0 hz1 _ _ _ _ co.length rfl rfl rfl rfl (by rw [hz2];omega) (by unfold maxLen;omega) (by have:=B1.size;omega) ?_;intro w2 own2 hg2))
  ·have hz2' : w1.heap.size < w2.heap.size:=by
    have:=begS_new own2 (by omega)
    exact this.lt
   have hBw1 : Below w1.heap.size w1 w2:=⟨hg2.os,hg2.tape,hg2.output,hg2.size,fun i hi=>hg2.block i hi (fun e=>by cases e)⟩
   have hbg:=begS_new own2 (by omega)
   have hb0:=hbg.below (w':=w2.alloc (.cells #[.slice (some ⟨w1.heap.size,0,none⟩) co.length co.length] 190)) ((Below.refl _ _).alloc (Nat.le_refl _) _) hz2'
   have hx0:=L3.BX.new w2 #[.slice (some ⟨w1.heap.size,0,none⟩) co.length co.length] 190
   have hB0 : Below w1.heap.size w1 (w2.alloc (.cells #[.slice (some ⟨w1.heap.size,0,none⟩) co.length co.length] 190)):=hBw1.alloc (by omega) _
   have S0:=hid (And.intro hb0 (And.intro hx0 hB0))
   have BP:=hid bP
   have BM:=hid bM
   have BB:=hid B1
   have hz9:=B1.size
   clear hbg hb0 hx0 hB0 own2 hg2 bP bM B1 hb1 hBw1
   go_loopw [29] (fun i wr=>∃ k : Nat,k ≤ l.length ∧ i = .int .i64 k ∧ BgS wr w1.heap.size co.length (l.take k) ∧ L3.BX wr w2.heap.size #[.slice (some ⟨w1.heap.size,0,none⟩) co.length co.length] 190 ∧ Below w1.heap.size w1 wr) (fun i _=>l.length - (intOf i).toNat)
   case atStart=>exact ⟨0,by omega,rfl,S0.out.1,S0.out.2.1,S0.out.2.2⟩
   case round =>
    obtain ⟨k,hk,rfl,hbs,hbx,hbl⟩:=hrel
    have hzr:=hbx.sz
    have cb:=hbx.cell 0
    simp at cb
    by_cases hlt : k < l.length
    ·obtain ⟨⟨xp,xop,x1,x2⟩,hx⟩ : ∃ x,l[k]? = some x:=⟨l[k],List.getElem?_eq_getElem hlt⟩
     obtain ⟨b,o,cap',hv2,hbb,c0,c1,c2,c3⟩:=L1.ins_at (HIS.out.below hbl (Nat.le_refl _)) hx
     obtain ⟨rfl,-,rfl⟩:=Value.slice.inj hv2
     obtain ⟨hp1,hp2⟩:=HIn.out _ (List.mem_of_getElem? hx)
     dsimp only at c0 c1 c2 c3 hp1 hp2
     obtain ⟨p,rfl⟩:=Int.eq_ofNat_of_zero_le hp1
     have hki : (k : Int) < (l.length : Int):=by omega
     have hpn : p < co.length:=by omega
     have hb1:=hbs.below (w':=wr.alloc (.cells #[.int .i64 p,.int .i64 xop,.int .i64 x1,.int .i64 x2] 192)) ((Below.refl _ _).alloc (Nat.le_refl _) _) hbs.lt
     have e0:=hb1.2 p hpn
     have e1:=hb1.frozen p
     have hst:=hbs.step hx (p:=p) rfl
     have HStep:=hid (hst.below (w':=(wr.setCell ⟨w1.heap.size,p,none⟩ (.bool true)).alloc (.cells #[.int .i64 p,.int .i64 xop,.int .i64 x1,.int .i64 x2] 192)) ((Below.refl _ _).alloc (Nat.le_refl _) _) hst.lt)
     have hgx:=hbx.grown (L3.set_grown wr w1.heap.size p (.bool true)) (fun e=>by have:=Option.some.inj e;omega)
     have HX2:=hid (hgx.below (w':=(wr.setCell ⟨w1.heap.size,p,none⟩ (.bool true)).alloc (.cells #[.int .i64 p,.int .i64 xop,.int .i64 x1,.int .i64 x2] 192)) ((Below.refl _ _).alloc (Nat.le_refl _) _) hgx.sz)
     clear hst hgx
     have hlt3:=hbs.lt
     clear hv2 hx hbs hb1 hp1
     go_wp2
     go_roundw
     case rel=>exact ⟨k + 1,by omega,by go_num,HStep.out,HX2.out,BLw⟩
     case measure=>simp [intOf];omega
    ·obtain rfl : k = l.length:=by omega
     rw [List.take_length] at hbs
     have hBm:=BM.out.below hbl BM.out.sz
     have hBp:=BP.out.below hbl BP.out.sz
     have m6:=hBm.cell 6
     simp at m6
     have hB9:=belows BB.out hbl BB.out.size
     have HF2:=hid (HF.out _ l co.length w2.heap.size wr hB9 HIn.out (hbs.reads (by omega) (Nat.le_refl _)) hbx hBp)
     clear hBm hBp hbs
     go_wp2_with (go_at_call 154;refine HF2.out.mono ?_;rintro e W1 ⟨er,hR,rfl,hb1⟩)
     go_ret
     exact ⟨er,HO.out er l 0 HDd.out (by rw [if_neg (by decide),if_neg h64];exact hR),rfl,belows hB9 hb1 hB9.size⟩
  ·go_ret
   exact ⟨d,HO.out d l d HDd.out (by rw [if_pos HZ.out]),rfl,B1⟩
end Go.Proofs.YtnojgiflgmnjlaaGreatDoor
