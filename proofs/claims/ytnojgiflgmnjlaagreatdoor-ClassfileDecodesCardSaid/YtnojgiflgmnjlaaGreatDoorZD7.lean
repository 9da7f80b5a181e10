/- Own texts for the claim, part 7. -/
import Derived.Test.YtnojgiflgmnjlaaGreatDoorZD6
import Derived.Sort.BigQuietIn
import Derived.OwnWalkIn
import Derived.RangeFuncNested
import Derived.RangeFuncBound
import Derived.RangeFuncCalls
import Derived.RangeFuncLeaves
import Derived.Shelf.Abstract
import Derived.Shelf.RegionOpen
import Derived.TacticsInMore
import Derived.LoopNIn
import Derived.LoopIn
set_option maxRecDepth 100000
namespace Go.Proofs.YtnojgiflgmnjlaaGreatDoor.L3
open Go.RowKit
def uns (z : Int) (k : Nat) : Int:=if k = 0 then 0 else z % 65536
theorem unsigned_any (z : Int) (k : Nat) (w : World) (hk : k = 0 ∨ k = 2) : Calls Tryz.prog 203 #[.int .i64 z,.int .i64 k] w fun e w'=>e = .returned (.int .i64 (uns z k)) ∧ w = w':=by
 rcases hk with rfl|rfl
 ·exact unsigned_0 z w
 ·exact unsigned_2 z w
theorem wd_ab (t : Int) : ((Cp.wd t).2.2.1 = 0 ∨ (Cp.wd t).2.2.1 = 2) ∧ ((Cp.wd t).2.2.2 = 0 ∨ (Cp.wd t).2.2.2 = 2):=by
 unfold Cp.wd
 repeat' split
 all_goals simp
def cutW (c : Cp.C) (x : Nat × Nat × Nat × Nat) : Cp.C:=⟨c.t,if x.1 = 0 then ⟨#[]⟩ else c.s,sgn c.n x.2.1,uns c.a x.2.2.1,uns c.b x.2.2.2⟩
set_option maxHeartbeats 400000 in
theorem cut_any (c : Cp.C) (x0 x1 x2 x3 : Nat) (w : World) (h1 : x1 = 0 ∨ x1 = 4 ∨ x1 = 8) (h2 : x2 = 0 ∨ x2 = 2) (h3 : x3 = 0 ∨ x3 = 2) :
  Calls Tryz.prog 189 #[.agg (cC c),.agg #[.int .i64 x0,.int .i64 x1,.int .i64 x2,.int .i64 x3]] w fun e w'=>e = .returned (.agg (cC (cutW c (x0,x1,x2,x3)))) ∧ Below w.heap.size w w':=by
 have HS:=hid (fun W=>signed_any c.n x1 W h1)
 have HA:=hid (fun W=>unsigned_any c.a x2 W h2)
 have HB:=hid (fun W=>unsigned_any c.b x3 W h3)
 unfold cutW cC
 obtain ⟨t,s,n,a,b⟩:=c
 dsimp only at HS HA HB ⊢
 clear h1 h2 h3
 by_cases h0 : x0 = 0
 ·subst h0
  rw [if_pos rfl]
  go_enter Tryz.func189,Tryz.ntmps189
  go_wp2_with (first
   | (go_at_call 202;refine (HS.out _).mono ?_;rintro e w1 ⟨rfl,rfl⟩;have _ga:=HS)
   | (go_at_call 203;(with_reducible refine (HA.out _).mono ?_);rintro e w2 ⟨rfl,rfl⟩)
   | (go_at_call 203;(with_reducible refine (HB.out _).mono ?_);rintro e w3 ⟨rfl,rfl⟩))
  exact bodyPost_ret (v:=.agg #[.int .i64 t,.string ⟨#[]⟩,.int .i64 (sgn n x1),.int .i64 (uns a x2),.int .i64 (uns b x3)]) (by simp [results,Tryz.results189,go_sem]) rfl ⟨rfl,BLw⟩
 ·rw [if_neg h0]
  have hd : ((x0 : Int) == 0) = false:=by rw [beq_eq_false_iff_ne];omega
  go_enter Tryz.func189,Tryz.ntmps189
  go_wp2_with (first
   | (go_at_call 202;refine (HS.out _).mono ?_;rintro e w1 ⟨rfl,rfl⟩;have _ga:=HS)
   | (go_at_call 203;(with_reducible refine (HA.out _).mono ?_);rintro e w2 ⟨rfl,rfl⟩)
   | (go_at_call 203;(with_reducible refine (HB.out _).mono ?_);rintro e w3 ⟨rfl,rfl⟩))
  exact bodyPost_ret (v:=.agg #[.int .i64 t,.string s,.int .i64 (sgn n x1),.int .i64 (uns a x2),.int .i64 (uns b x3)]) (by simp [results,Tryz.results189,go_sem]) rfl ⟨rfl,BLw⟩
def ceOut (c : Cp.C) : Int:=if Cp.knownB c.t = false ∨ cutW c (Cp.wd c.t) ≠ c then 31 else if 255 < c.s.size ∨ Cp.plainB (Cp.bl c.s) = false then 32 else 0
theorem cf_cut (u v : Value) (w : World) : (callFunc 189 #[u,v]).run Tryz.prog w = .ok (.enter 189 #[u,v]) w:=by kernel_rfl
theorem widthsOf_z (t : Int) (w : World) (ht : Tabs w) : Calls Tryz.prog 144 #[.int .i64 t] w fun e w'=>e = .returned (.tuple #[.agg #[.int .i64 (Cp.wd t).1,.int .i64 (Cp.wd t).2.1,.int .i64 (Cp.wd t).2.2.1,.int .i64 (Cp.wd t).2.2.2],.bool (Cp.knownB t)]) ∧ Below w.heap.size w w':=by
 by_cases h : 0 ≤ t
 ·obtain ⟨k,rfl⟩:=Int.eq_ofNat_of_zero_le h
  exact widthsOf_any k w ht
 ·have h1 : Cp.wd t = (0,0,0,0):=by unfold Cp.wd;rw [if_neg (by omega),if_neg (by omega),if_neg (by omega),if_neg (by omega),if_neg (by omega)]
  have h2 : Cp.knownB t = false:=by unfold Cp.knownB;rw [decide_eq_false_iff_not];omega
  rw [h1,h2]
  exact widthsOf_out t w (.inl (by omega))
set_option maxHeartbeats 4000000 in
theorem checkEntry_any (c : Cp.C) (w : World) (ht : Tabs w) (hs : c.s.size ≤ 140737488355328) : Calls Tryz.prog 170 #[.agg (cC c)] w fun e w'=>e = .returned (.int .i64 (ceOut c)) ∧ Below w.heap.size w w':=by
 have HW0:=fun W (h : Below w.heap.size w W)=>widthsOf_z c.t W (ht.below h ht.size)
 have HCu0:=fun W=>cut_any c (Cp.wd c.t).1 (Cp.wd c.t).2.1 (Cp.wd c.t).2.2.1 (Cp.wd c.t).2.2.2 W (wd_n c.t) (wd_ab c.t).1 (wd_ab c.t).2
 have HP0:=fun W=>isPlain_any c.s W hs
 unfold ceOut
 obtain ⟨d,hd⟩ : ∃ d,d = cutW c (Cp.wd c.t):=⟨_,rfl⟩
 have hdt : d.t = c.t:=by rw [hd];rfl
 rw [show cutW c ((Cp.wd c.t).1,(Cp.wd c.t).2.1,(Cp.wd c.t).2.2.1,(Cp.wd c.t).2.2.2) = d from hd.symm] at HCu0
 rw [← hd]
 obtain ⟨⟨x0,x1,x2,x3⟩,hx⟩ : ∃ x,x = Cp.wd c.t:=⟨_,rfl⟩
 rw [← hx] at HW0 HCu0
 dsimp only at HW0 HCu0
 cases hk : Cp.knownB c.t with
 | false =>
  rw [if_pos (.inl rfl)]
  rw [hk] at HW0
  have HW:=hid HW0
  unfold cC
  clear HW0 HCu0 HP0 hd hdt hx hk ht hs
  go_enter Tryz.func170,Tryz.ntmps170
  go_wp2_with (go_at_call 144;refine (HW.out _ BLw).mono ?_;rintro e w1 ⟨rfl,hb1⟩;have c0:=hb1.cell (p:=⟨w.heap.size,0,none⟩) (by simp);simp [go_sem] at c0;have hz1:=hb1.size;simp only [World.size_alloc] at hz1)
  go_quiet (fail)
  go_wp2
  go_ret
  exact ⟨rfl,by (have h1:=belows (B:=w.heap.size) (a:=w) BLw hb1 (by simp));exact BLw⟩
 | true =>
  rw [hk] at HW0
  have HW:=hid HW0
  have HCu:=hid HCu0
  have hdc : d = c ∨ (d ≠ c):=Decidable.em _
  rcases hdc with hdc|hdc
  ·rw [hdc] at HCu
   rw [hdc,if_neg (by rintro (h|h);cases h;exact h rfl)]
   by_cases hbig : 255 < c.s.size
   ·rw [if_pos (.inl hbig)]
    have hd2 : decide (255 < (c.s.size : Int)) = true:=by simp;omega
    unfold cC at HCu ⊢
    clear HW0 HCu0 HP0 hd hdt hx hk ht hs hdc hbig
    (go_enter Tryz.func170,Tryz.ntmps170;go_wp2_with (go_at_call 144;refine (HW.out _ BLw).mono ?_;rintro e w1 ⟨rfl,hb1⟩;have c0:=hb1.cell (p:=⟨w.heap.size,0,none⟩) (by simp);have c1:=hb1.cell (p:=⟨w.heap.size,1,none⟩) (by simp);have c2:=hb1.cell (p:=⟨w.heap.size,2,none⟩) (by simp);have c3:=hb1.cell (p:=⟨w.heap.size,3,none⟩) (by simp);have c4:=hb1.cell (p:=⟨w.heap.size,4,none⟩) (by simp);have hz1:=hb1.size;simp [go_sem] at c0 c1 c2 c3 c4 hz1;have hz2 : w.heap.size < w1.heap.size:=(by omega));go_region_law (refine Kit.step_call2g rfl 189 (.tmp 15) (.tmp 16) 56 169 rfl _ _ rfl rfl (cf_cut _ _ _) _ (HCu.out _) ?_;rintro e w2 ⟨rfl,hb2⟩;have hz3:=hb2.size;simp at hz3;have e0:=hb2.cell (p:=⟨w.heap.size,0,none⟩) (by simp;omega);have e1:=hb2.cell (p:=⟨w.heap.size,1,none⟩) (by simp;omega);have e2:=hb2.cell (p:=⟨w.heap.size,2,none⟩) (by simp;omega);have e3:=hb2.cell (p:=⟨w.heap.size,3,none⟩) (by simp;omega);have e4:=hb2.cell (p:=⟨w.heap.size,4,none⟩) (by simp;omega);simp [go_sem,c0,c1,c2,c3,c4,hz2] at e0 e1 e2 e3 e4;refine ⟨_,rfl,?_⟩))
    all_goals go_wp2
    all_goals go_ret
    all_goals exact ⟨rfl,(by (have h1:=belows (B:=w.heap.size) (a:=w) BLw hb1 (by simp));(have h2:=belows (B:=w.heap.size) (a:=w) BLw hb2 (by simp;omega));exact BLw)⟩
   ·have hd2 : decide (255 < (c.s.size : Int)) = false:=by simp;omega
    cases hp : Cp.plainB (Cp.bl c.s) with
    | false =>
     rw [if_pos (.inr rfl)]
     rw [hp] at HP0
     have HP:=hid HP0
     unfold cC at HCu ⊢
     clear HW0 HCu0 HP0 hd hdt hx hk ht hs hdc hbig hp
     (go_enter Tryz.func170,Tryz.ntmps170;go_wp2_with (go_at_call 144;refine (HW.out _ BLw).mono ?_;rintro e w1 ⟨rfl,hb1⟩;have c0:=hb1.cell (p:=⟨w.heap.size,0,none⟩) (by simp);have c1:=hb1.cell (p:=⟨w.heap.size,1,none⟩) (by simp);have c2:=hb1.cell (p:=⟨w.heap.size,2,none⟩) (by simp);have c3:=hb1.cell (p:=⟨w.heap.size,3,none⟩) (by simp);have c4:=hb1.cell (p:=⟨w.heap.size,4,none⟩) (by simp);have hz1:=hb1.size;simp [go_sem] at c0 c1 c2 c3 c4 hz1;have hz2 : w.heap.size < w1.heap.size:=(by omega));go_region_law (refine Kit.step_call2g rfl 189 (.tmp 15) (.tmp 16) 56 169 rfl _ _ rfl rfl (cf_cut _ _ _) _ (HCu.out _) ?_;rintro e w2 ⟨rfl,hb2⟩;have hz3:=hb2.size;simp at hz3;have e0:=hb2.cell (p:=⟨w.heap.size,0,none⟩) (by simp;omega);have e1:=hb2.cell (p:=⟨w.heap.size,1,none⟩) (by simp;omega);have e2:=hb2.cell (p:=⟨w.heap.size,2,none⟩) (by simp;omega);have e3:=hb2.cell (p:=⟨w.heap.size,3,none⟩) (by simp;omega);have e4:=hb2.cell (p:=⟨w.heap.size,4,none⟩) (by simp;omega);simp [go_sem,c0,c1,c2,c3,c4,hz2] at e0 e1 e2 e3 e4;refine ⟨_,rfl,?_⟩))
     all_goals go_wp2_with (go_at_call 190;refine (HP.out _).mono ?_;rintro e w3 ⟨rfl,rfl⟩)
     all_goals go_ret
     all_goals exact ⟨rfl,(by (have h1:=belows (B:=w.heap.size) (a:=w) BLw hb1 (by simp));(have h2:=belows (B:=w.heap.size) (a:=w) BLw hb2 (by simp;omega));exact BLw)⟩
    | true =>
     rw [if_neg (by rintro (h|h);exact hbig h;cases h)]
     rw [hp] at HP0
     have HP:=hid HP0
     unfold cC at HCu ⊢
     clear HW0 HCu0 HP0 hd hdt hx hk ht hs hdc hbig hp
     (go_enter Tryz.func170,Tryz.ntmps170;go_wp2_with (go_at_call 144;refine (HW.out _ BLw).mono ?_;rintro e w1 ⟨rfl,hb1⟩;have c0:=hb1.cell (p:=⟨w.heap.size,0,none⟩) (by simp);have c1:=hb1.cell (p:=⟨w.heap.size,1,none⟩) (by simp);have c2:=hb1.cell (p:=⟨w.heap.size,2,none⟩) (by simp);have c3:=hb1.cell (p:=⟨w.heap.size,3,none⟩) (by simp);have c4:=hb1.cell (p:=⟨w.heap.size,4,none⟩) (by simp);have hz1:=hb1.size;simp [go_sem] at c0 c1 c2 c3 c4 hz1;have hz2 : w.heap.size < w1.heap.size:=(by omega));go_region_law (refine Kit.step_call2g rfl 189 (.tmp 15) (.tmp 16) 56 169 rfl _ _ rfl rfl (cf_cut _ _ _) _ (HCu.out _) ?_;rintro e w2 ⟨rfl,hb2⟩;have hz3:=hb2.size;simp at hz3;have e0:=hb2.cell (p:=⟨w.heap.size,0,none⟩) (by simp;omega);have e1:=hb2.cell (p:=⟨w.heap.size,1,none⟩) (by simp;omega);have e2:=hb2.cell (p:=⟨w.heap.size,2,none⟩) (by simp;omega);have e3:=hb2.cell (p:=⟨w.heap.size,3,none⟩) (by simp;omega);have e4:=hb2.cell (p:=⟨w.heap.size,4,none⟩) (by simp;omega);simp [go_sem,c0,c1,c2,c3,c4,hz2] at e0 e1 e2 e3 e4;refine ⟨_,rfl,?_⟩))
     all_goals go_wp2_with (go_at_call 190;refine (HP.out _).mono ?_;rintro e w3 ⟨rfl,rfl⟩)
     all_goals go_ret
     all_goals exact ⟨rfl,(by (have h1:=belows (B:=w.heap.size) (a:=w) BLw hb1 (by simp));(have h2:=belows (B:=w.heap.size) (a:=w) BLw hb2 (by simp;omega));exact BLw)⟩
  ·rw [if_pos (.inr hdc)]
   obtain ⟨t,s,n,a,b⟩:=c
   obtain ⟨dt,ds,dn,da,db⟩:=d
   dsimp only at hdt
   subst hdt
   unfold cC at HCu ⊢
   dsimp only at HCu HW ⊢
   have hne : (¬ s = ds) ∨ (s = ds ∧ ¬ n = dn) ∨ (s = ds ∧ n = dn ∧ ¬ a = da) ∨ (s = ds ∧ n = dn ∧ a = da ∧ ¬ b = db):=by
    by_cases e1 : s = ds
    ·by_cases e2 : n = dn
     ·by_cases e3 : a = da
      ·by_cases e4 : b = db
       ·exact absurd (by rw [e1,e2,e3,e4]) hdc
       ·exact .inr (.inr (.inr ⟨e1,e2,e3,e4⟩))
      ·exact .inr (.inr (.inl ⟨e1,e2,e3⟩))
     ·exact .inr (.inl ⟨e1,e2⟩)
    ·exact .inl e1
   clear HW0 HCu0 HP0 hd hx hk ht hs hdc
   rcases hne with hne|⟨rfl,hne⟩|⟨rfl,rfl,hne⟩|⟨rfl,rfl,rfl,hne⟩
   ·have hne3 : (s.toList == ds.toList) = false:=by rw [beq_eq_false_iff_ne,ne_eq,ByteArray.toList_eq,ByteArray.toList_eq];intro e;exact hne (ba_ext e)
    (go_enter Tryz.func170,Tryz.ntmps170;go_wp2_with (go_at_call 144;refine (HW.out _ BLw).mono ?_;rintro e w1 ⟨rfl,hb1⟩;have c0:=hb1.cell (p:=⟨w.heap.size,0,none⟩) (by simp);have c1:=hb1.cell (p:=⟨w.heap.size,1,none⟩) (by simp);have c2:=hb1.cell (p:=⟨w.heap.size,2,none⟩) (by simp);have c3:=hb1.cell (p:=⟨w.heap.size,3,none⟩) (by simp);have c4:=hb1.cell (p:=⟨w.heap.size,4,none⟩) (by simp);have hz1:=hb1.size;simp [go_sem] at c0 c1 c2 c3 c4 hz1;have hz2 : w.heap.size < w1.heap.size:=(by omega));go_region_law (refine Kit.step_call2g rfl 189 (.tmp 15) (.tmp 16) 56 169 rfl _ _ rfl rfl (cf_cut _ _ _) _ (HCu.out _) ?_;rintro e w2 ⟨rfl,hb2⟩;have hz3:=hb2.size;simp at hz3;have e0:=hb2.cell (p:=⟨w.heap.size,0,none⟩) (by simp;omega);have e1:=hb2.cell (p:=⟨w.heap.size,1,none⟩) (by simp;omega);have e2:=hb2.cell (p:=⟨w.heap.size,2,none⟩) (by simp;omega);have e3:=hb2.cell (p:=⟨w.heap.size,3,none⟩) (by simp;omega);have e4:=hb2.cell (p:=⟨w.heap.size,4,none⟩) (by simp;omega);simp [go_sem,c0,c1,c2,c3,c4,hz2] at e0 e1 e2 e3 e4;refine ⟨_,rfl,?_⟩))
    all_goals go_wp2
    all_goals go_ret
    all_goals exact ⟨rfl,(by (have h1:=belows (B:=w.heap.size) (a:=w) BLw hb1 (by simp));(have h2:=belows (B:=w.heap.size) (a:=w) BLw hb2 (by simp;omega));exact BLw)⟩
   ·(go_enter Tryz.func170,Tryz.ntmps170;go_wp2_with (go_at_call 144;refine (HW.out _ BLw).mono ?_;rintro e w1 ⟨rfl,hb1⟩;have c0:=hb1.cell (p:=⟨w.heap.size,0,none⟩) (by simp);have c1:=hb1.cell (p:=⟨w.heap.size,1,none⟩) (by simp);have c2:=hb1.cell (p:=⟨w.heap.size,2,none⟩) (by simp);have c3:=hb1.cell (p:=⟨w.heap.size,3,none⟩) (by simp);have c4:=hb1.cell (p:=⟨w.heap.size,4,none⟩) (by simp);have hz1:=hb1.size;simp [go_sem] at c0 c1 c2 c3 c4 hz1;have hz2 : w.heap.size < w1.heap.size:=(by omega));go_region_law (refine Kit.step_call2g rfl 189 (.tmp 15) (.tmp 16) 56 169 rfl _ _ rfl rfl (cf_cut _ _ _) _ (HCu.out _) ?_;rintro e w2 ⟨rfl,hb2⟩;have hz3:=hb2.size;simp at hz3;have e0:=hb2.cell (p:=⟨w.heap.size,0,none⟩) (by simp;omega);have e1:=hb2.cell (p:=⟨w.heap.size,1,none⟩) (by simp;omega);have e2:=hb2.cell (p:=⟨w.heap.size,2,none⟩) (by simp;omega);have e3:=hb2.cell (p:=⟨w.heap.size,3,none⟩) (by simp;omega);have e4:=hb2.cell (p:=⟨w.heap.size,4,none⟩) (by simp;omega);simp [go_sem,c0,c1,c2,c3,c4,hz2] at e0 e1 e2 e3 e4;refine ⟨_,rfl,?_⟩))
    all_goals go_wp2
    all_goals go_ret
    all_goals exact ⟨rfl,(by (have h1:=belows (B:=w.heap.size) (a:=w) BLw hb1 (by simp));(have h2:=belows (B:=w.heap.size) (a:=w) BLw hb2 (by simp;omega));exact BLw)⟩
   ·(go_enter Tryz.func170,Tryz.ntmps170;go_wp2_with (go_at_call 144;refine (HW.out _ BLw).mono ?_;rintro e w1 ⟨rfl,hb1⟩;have c0:=hb1.cell (p:=⟨w.heap.size,0,none⟩) (by simp);have c1:=hb1.cell (p:=⟨w.heap.size,1,none⟩) (by simp);have c2:=hb1.cell (p:=⟨w.heap.size,2,none⟩) (by simp);have c3:=hb1.cell (p:=⟨w.heap.size,3,none⟩) (by simp);have c4:=hb1.cell (p:=⟨w.heap.size,4,none⟩) (by simp);have hz1:=hb1.size;simp [go_sem] at c0 c1 c2 c3 c4 hz1;have hz2 : w.heap.size < w1.heap.size:=(by omega));go_region_law (refine Kit.step_call2g rfl 189 (.tmp 15) (.tmp 16) 56 169 rfl _ _ rfl rfl (cf_cut _ _ _) _ (HCu.out _) ?_;rintro e w2 ⟨rfl,hb2⟩;have hz3:=hb2.size;simp at hz3;have e0:=hb2.cell (p:=⟨w.heap.size,0,none⟩) (by simp;omega);have e1:=hb2.cell (p:=⟨w.heap.size,1,none⟩) (by simp;omega);have e2:=hb2.cell (p:=⟨w.heap.size,2,none⟩) (by simp;omega);have e3:=hb2.cell (p:=⟨w.heap.size,3,none⟩) (by simp;omega);have e4:=hb2.cell (p:=⟨w.heap.size,4,none⟩) (by simp;omega);simp [go_sem,c0,c1,c2,c3,c4,hz2] at e0 e1 e2 e3 e4;refine ⟨_,rfl,?_⟩))
    all_goals go_wp2
    all_goals go_ret
    all_goals exact ⟨rfl,(by (have h1:=belows (B:=w.heap.size) (a:=w) BLw hb1 (by simp));(have h2:=belows (B:=w.heap.size) (a:=w) BLw hb2 (by simp;omega));exact BLw)⟩
   ·(go_enter Tryz.func170,Tryz.ntmps170;go_wp2_with (go_at_call 144;refine (HW.out _ BLw).mono ?_;rintro e w1 ⟨rfl,hb1⟩;have c0:=hb1.cell (p:=⟨w.heap.size,0,none⟩) (by simp);have c1:=hb1.cell (p:=⟨w.heap.size,1,none⟩) (by simp);have c2:=hb1.cell (p:=⟨w.heap.size,2,none⟩) (by simp);have c3:=hb1.cell (p:=⟨w.heap.size,3,none⟩) (by simp);have c4:=hb1.cell (p:=⟨w.heap.size,4,none⟩) (by simp);have hz1:=hb1.size;simp [go_sem] at c0 c1 c2 c3 c4 hz1;have hz2 : w.heap.size < w1.heap.size:=(by omega));go_region_law (refine Kit.step_call2g rfl 189 (.tmp 15) (.tmp 16) 56 169 rfl _ _ rfl rfl (cf_cut _ _ _) _ (HCu.out _) ?_;rintro e w2 ⟨rfl,hb2⟩;have hz3:=hb2.size;simp at hz3;have e0:=hb2.cell (p:=⟨w.heap.size,0,none⟩) (by simp;omega);have e1:=hb2.cell (p:=⟨w.heap.size,1,none⟩) (by simp;omega);have e2:=hb2.cell (p:=⟨w.heap.size,2,none⟩) (by simp;omega);have e3:=hb2.cell (p:=⟨w.heap.size,3,none⟩) (by simp;omega);have e4:=hb2.cell (p:=⟨w.heap.size,4,none⟩) (by simp;omega);simp [go_sem,c0,c1,c2,c3,c4,hz2] at e0 e1 e2 e3 e4;refine ⟨_,rfl,?_⟩))
    all_goals go_wp2
    all_goals go_ret
    all_goals exact ⟨rfl,(by (have h1:=belows (B:=w.heap.size) (a:=w) BLw hb1 (by simp));(have h2:=belows (B:=w.heap.size) (a:=w) BLw hb2 (by simp;omega));exact BLw)⟩
end Go.Proofs.YtnojgiflgmnjlaaGreatDoor.L3
namespace Go.Proofs.YtnojgiflgmnjlaaGreatDoor.L3
open Go.RowKit
theorem c0_ne {c : Cp.C} (h : c ≠ Cp.C0) : (¬ c.t = 0) ∨ (c.t = 0 ∧ (c.s.toList.isEmpty) = false) ∨ (c.t = 0 ∧ c.s = ⟨#[]⟩ ∧ ¬ c.n = 0) ∨ (c.t = 0 ∧ c.s = ⟨#[]⟩ ∧ c.n = 0 ∧ ¬ c.a = 0) ∨ (c.t = 0 ∧ c.s = ⟨#[]⟩ ∧ c.n = 0 ∧ c.a = 0 ∧ ¬ c.b = 0):=by
 obtain ⟨t,s,n,a,b⟩:=c
 dsimp only
 by_cases e1 : t = 0
 ·by_cases e2 : s = ⟨#[]⟩
  ·by_cases e3 : n = 0
   ·by_cases e4 : a = 0
    ·by_cases e5 : b = 0
     ·exact absurd (by rw [e1,e2,e3,e4,e5];rfl) h
     ·exact .inr (.inr (.inr (.inr ⟨e1,e2,e3,e4,e5⟩)))
    ·exact .inr (.inr (.inr (.inl ⟨e1,e2,e3,e4⟩)))
   ·exact .inr (.inr (.inl ⟨e1,e2,e3⟩))
  ·refine .inr (.inl ⟨e1,?_⟩)
   rw [ByteArray.toList_eq]
   cases hb : s.data.toList with
   | nil=>exact absurd (ba_ext hb) e2
   | cons=>rfl
 ·exact .inl e1
def prevB (l : List Cp.C) (i : Nat) : Bool:=match i with
 | 0=>true
 | j + 1=>match l[j]? with
  | some p=>p.t == 5
  | none=>false
set_option maxHeartbeats 4000000 in
theorem checkAt_none (l : List Cp.C) (i : Nat) (c : Cp.C) (v : Value) (w : World) (hv : Kit.IsS 5 w v l.length (l.flatMap cL)) (hc : l[i]? = some c) (hp : prevB l i = true) :
  Calls Tryz.prog 142 #[v,.int .i64 i] w fun e w'=>e = .returned (.int .i64 (if c = Cp.C0 then 0 else 31)) ∧ Below w.heap.size w w':=by
 have hi : i < l.length:=(List.getElem?_eq_some_iff.1 hc).1
 have hlen:=hv.2.1
 obtain ⟨b,o,cap,rfl,hb,c0,c1,c2,c3,c4⟩:=c_at hv hc
 have hi1 : (i : Int) < (l.length : Int):=by omega
 cases i with
 | zero =>
  rw [Nat.zero_mul,Nat.add_zero] at c0 c1 c2 c3 c4
  clear hv hp
  by_cases he : c = Cp.C0
  ·subst he
   rw [if_pos rfl]
   unfold Cp.C0 at c0 c1 c2 c3 c4
   dsimp only at c0 c1 c2 c3 c4
   clear hc
   (go_enter Tryz.func142,Tryz.ntmps142;go_wp2;go_ret;exact ⟨rfl,BLw⟩)
  ·rw [if_neg he]
   have hne:=c0_ne he
   obtain ⟨t,s,n,a,bb⟩:=c
   dsimp only at c0 c1 c2 c3 c4 hne
   clear hc he
   rcases hne with h|⟨rfl,h⟩|⟨rfl,rfl,h⟩|⟨rfl,rfl,rfl,h⟩|⟨rfl,rfl,rfl,rfl,h⟩
   all_goals (go_enter Tryz.func142,Tryz.ntmps142;go_wp2;go_ret;exact ⟨rfl,BLw⟩)
 | succ j =>
  obtain ⟨p,hpj⟩ : ∃ p,l[j]? = some p:=⟨l[j]'(by omega),List.getElem?_eq_getElem _⟩
  obtain ⟨b',o',cap',hv',hb',d0,-,-,-,-⟩:=c_at hv hpj
  obtain ⟨e1,-,-⟩:=Value.slice.inj hv'
  obtain ⟨rfl,rfl⟩ : b = b' ∧ o = o':=by simpa using e1
  have hpt : (p.t == 5) = true:=by unfold prevB at hp;dsimp only at hp;rw [hpj] at hp;exact hp
  have hj1 : (j : Int) < (l.length : Int):=by omega
  have hi0 : (((j + 1 : Nat) : Int) == 0) = false:=by rw [beq_eq_false_iff_ne];omega
  obtain ⟨pt,ps,pn,pa,pb⟩:=p
  dsimp only at d0 hpt
  obtain rfl : pt = 5:=by simpa using hpt
  clear hv hp hv' e1 hpj
  by_cases he : c = Cp.C0
  ·subst he
   rw [if_pos rfl]
   unfold Cp.C0 at c0 c1 c2 c3 c4
   dsimp only at c0 c1 c2 c3 c4
   clear hc
   (go_enter Tryz.func142,Tryz.ntmps142;go_wp2;go_ret;exact ⟨rfl,BLw⟩)
  ·rw [if_neg he]
   have hne:=c0_ne he
   obtain ⟨t,s,n,a,bb⟩:=c
   dsimp only at c0 c1 c2 c3 c4 hne
   clear hc he
   rcases hne with h|⟨rfl,h⟩|⟨rfl,rfl,h⟩|⟨rfl,rfl,rfl,h⟩|⟨rfl,rfl,rfl,rfl,h⟩
   all_goals (go_enter Tryz.func142,Tryz.ntmps142;go_wp2;go_ret;exact ⟨rfl,BLw⟩)
set_option maxHeartbeats 4000000 in
theorem checkAt_some (l : List Cp.C) (i : Nat) (c : Cp.C) (v : Value) (w : World) (ht : Tabs w) (hv : Kit.IsS 5 w v l.length (l.flatMap cL)) (hc : l[i]? = some c) (hp : prevB l i = false) (hs : c.s.size ≤ 140737488355328) :
  Calls Tryz.prog 142 #[v,.int .i64 i] w fun e w'=>e = .returned (.int .i64 (if c.t = 5 ∧ i = l.length - 1 then 31 else ceOut c)) ∧ Below w.heap.size w w':=by
 have hi : i < l.length:=(List.getElem?_eq_some_iff.1 hc).1
 have hlen:=hv.2.1
 have HE0:=fun W (h : Below w.heap.size w W)=>checkEntry_any c W (ht.below h ht.size) hs
 obtain ⟨b,o,cap,rfl,hb,c0,c1,c2,c3,c4⟩:=c_at hv hc
 have hi1 : (i : Int) < (l.length : Int):=by omega
 cases i with
 | zero=>unfold prevB at hp;cases hp
 | succ j =>
  obtain ⟨p,hpj⟩ : ∃ p,l[j]? = some p:=⟨l[j]'(by omega),List.getElem?_eq_getElem _⟩
  obtain ⟨b',o',cap',hv',hb',d0,-,-,-,-⟩:=c_at hv hpj
  obtain ⟨e1,-,-⟩:=Value.slice.inj hv'
  obtain ⟨rfl,rfl⟩ : b = b' ∧ o = o':=by simpa using e1
  have hpt : (p.t == 5) = false:=by unfold prevB at hp;dsimp only at hp;rw [hpj] at hp;exact hp
  have hj1 : (j : Int) < (l.length : Int):=by omega
  have hi0 : (((j + 1 : Nat) : Int) == 0) = false:=by rw [beq_eq_false_iff_ne];omega
  have hw1 : IntKind.i64.wrap ((l.length : Int) - 1) = (l.length : Int) - 1:=IntWalk.i64_in _ (by omega)
  unfold cC at HE0
  obtain ⟨pt,ps,pn,pa,pb⟩:=p
  dsimp only at d0 hpt
  clear hv hp hv' e1 hpj
  by_cases h5 : c.t = 5
  ·have hd5 : (c.t == 5) = true:=by simpa using h5
   by_cases hla : j + 1 = l.length - 1
   ·rw [if_pos ⟨h5,hla⟩]
    have hd6 : (((j + 1 : Nat) : Int) == (l.length : Int) - 1) = true:=by rw [beq_iff_eq];omega
    have hd6' : ((j : Int) + 1 == (l.length : Int) - 1) = true:=by rw [beq_iff_eq];omega
    clear hc h5 hla HE0
    (go_enter Tryz.func142,Tryz.ntmps142;go_wp2;go_ret;exact ⟨rfl,BLw⟩)
   ·rw [if_neg (fun e=>hla e.2)]
    have hd6 : (((j + 1 : Nat) : Int) == (l.length : Int) - 1) = false:=by rw [beq_eq_false_iff_ne];omega
    have hd6' : ((j : Int) + 1 == (l.length : Int) - 1) = false:=by rw [beq_eq_false_iff_ne];omega
    have HE:=hid HE0
    clear hc h5 hla HE0
    (go_enter Tryz.func142,Tryz.ntmps142;go_wp2_with (go_at_call 170;refine (HE.out _ BLw).mono ?_;rintro e w1 ⟨rfl,hb1⟩);go_ret;exact ⟨rfl,belows (B:=w.heap.size) (a:=w) BLw hb1 (by simp)⟩)
  ·rw [if_neg (fun e=>h5 e.1)]
   have hd5 : (c.t == 5) = false:=by simpa using h5
   have HE:=hid HE0
   clear hc h5 HE0
   (go_enter Tryz.func142,Tryz.ntmps142;go_wp2_with (go_at_call 170;refine (HE.out _ BLw).mono ?_;rintro e w1 ⟨rfl,hb1⟩);go_ret;exact ⟨rfl,belows (B:=w.heap.size) (a:=w) BLw hb1 (by simp)⟩)
end Go.Proofs.YtnojgiflgmnjlaaGreatDoor.L3
namespace Go.Proofs.YtnojgiflgmnjlaaGreatDoor.L3
open Go.RowKit
def errAt (l : List Cp.C) (i : Nat) : Int:=match l[i]? with
 | none=>0
 | some c=>if prevB l i = true then (if c = Cp.C0 then 0 else 31) else (if c.t = 5 ∧ i = l.length - 1 then 31 else ceOut c)
def CkIs (l : List Cp.C) (er : Int) : Prop:=(4096 < l.length ∧ er = 3) ∨ (l.length ≤ 4096 ∧ ((er = 0 ∧ ∀ i,i < l.length → errAt l i = 0) ∨ (∃ i,i < l.length ∧ errAt l i = er ∧ er ≠ 0 ∧ ∀ j,j < i → errAt l j = 0)))
theorem CkIs.det {l : List Cp.C} {a b : Int} (h : CkIs l a) (k : CkIs l b) : a = b:=by
 rcases h with ⟨h1,rfl⟩|⟨h1,h⟩
 ·rcases k with ⟨-,rfl⟩|⟨k1,-⟩
  ·rfl
  ·omega
 ·rcases k with ⟨k1,-⟩|⟨-,k⟩
  ·omega
  ·rcases h with ⟨rfl,h⟩|⟨i,hi,he,hn,h⟩
   ·rcases k with ⟨rfl,-⟩|⟨j,hj,ke,kn,-⟩
    ·rfl
    ·exact absurd (ke.symm.trans (h j hj)) kn
   ·rcases k with ⟨rfl,k⟩|⟨j,hj,ke,kn,k⟩
    ·exact absurd (he.symm.trans (k i hi)) hn
    ·rcases Nat.lt_trichotomy i j with hij|rfl|hij
     ·exact absurd (he.symm.trans (k i hij)) hn
     ·exact he.symm.trans ke
     ·exact absurd (ke.symm.trans (h j hij)) kn
set_option maxHeartbeats 400000 in
theorem check_any (l : List Cp.C) (v : Value) (w : World) (ht : Tabs w) (hv : Kit.IsS 5 w v l.length (l.flatMap cL)) (hs : ∀ c ∈ l,c.s.size ≤ 140737488355328) :
  Calls Tryz.prog 85 #[v] w fun e w'=>∃ er,CkIs l er ∧ e = .returned (.int .i64 er) ∧ Below w.heap.size w w':=by
 have HT:=hid (fun W (h : Below w.heap.size w W)=>ht.below h ht.size)
 have HV:=hid (fun W (h : Below w.heap.size w W)=>hv.below h (Nat.le_refl _))
 have HS:=hid hs
 have hlen:=hv.2.1
 obtain ⟨a,cap,rfl⟩:=hv.len
 clear hv ht hs
 by_cases hbig : 4096 < l.length
 ·have hd : decide (4096 < (l.length : Int)) = true:=by simp;omega
  have HC:=hid (show CkIs l 3 from .inl ⟨hbig,rfl⟩)
  clear hbig
  go_enter Tryz.func85,Tryz.ntmps85
  go_wp2
  go_ret
  exact ⟨3,HC.out,rfl,BLw⟩
 ·have hd : decide (4096 < (l.length : Int)) = false:=by simp;omega
  have hsm : l.length ≤ 4096:=by omega
  clear hbig
  go_enter Tryz.func85,Tryz.ntmps85
  go_wp2
  go_loopw [10] (fun i wr=>∃ k : Nat,k ≤ l.length ∧ i = .int .i64 k ∧ Hid (∀ j,j < k → errAt l j = 0) ∧ Below w.heap.size w wr) (fun i _=>l.length - (intOf i).toNat)
  case atStart=>exact ⟨0,by omega,rfl,fun j hj=>absurd hj (by omega),BLw⟩
  case round =>
   obtain ⟨k,hk,rfl,hz,hbl⟩:=hrel
   have hbz:=hbl.size
   by_cases hlt : k < l.length
   ·obtain ⟨c,hc⟩ : ∃ c,l[k]? = some c:=⟨l[k],List.getElem?_eq_getElem hlt⟩
    have HA0 : Calls Tryz.prog 142 #[.slice a l.length cap,.int .i64 k] wr fun e w'=>e = .returned (.int .i64 (errAt l k)) ∧ Below wr.heap.size wr w':=by
     unfold errAt
     rw [hc]
     dsimp only
     cases hp : prevB l k with
     | true=>rw [if_pos rfl];exact checkAt_none l k c _ wr (HV.out wr hbl) hc hp
     | false=>rw [if_neg (by simp)];exact checkAt_some l k c _ wr (HT.out wr hbl) (HV.out wr hbl) hc hp (HS.out c (List.mem_of_getElem? hc))
    have hki : (k : Int) < l.length:=by omega
    obtain ⟨er,her⟩ : ∃ er,er = errAt l k:=⟨_,rfl⟩
    rw [← her] at HA0
    have HA:=hid HA0
    by_cases h0 : er = 0
    ·have hnext:=hid (fun j (hj : j < k + 1)=>show errAt l j = 0 by
      rcases Nat.lt_or_ge j k with h|h
      ·exact hz.out j h
      ·rw [show j = k by omega,← her,h0])
     have hd5 : (er != 0) = false:=by simpa using h0
     clear HA0 hc her h0
     go_wp2_with (go_at_call 142;refine HA.out.mono ?_;rintro e w1 ⟨rfl,hb1⟩)
     go_roundw
     case rel=>exact ⟨k + 1,by omega,by go_num,hnext,belows hbl hb1 hbz⟩
     case measure=>simp [intOf];omega
    ·have HC:=hid (show CkIs l er from .inr ⟨hsm,.inr ⟨k,hlt,her.symm,h0,hz.out⟩⟩)
     have hd5 : (er != 0) = true:=by simpa using h0
     clear HA0 hc her h0
     go_wp2_with (go_at_call 142;refine HA.out.mono ?_;rintro e w1 ⟨rfl,hb1⟩)
     go_ret
     exact ⟨er,HC.out,rfl,belows hbl hb1 hbz⟩
   ·obtain rfl : k = l.length:=by omega
    have HC:=hid (show CkIs l 0 from .inr ⟨hsm,.inl ⟨rfl,hz.out⟩⟩)
    go_wp2
    go_ret
    exact ⟨0,HC.out,rfl,hbl⟩
end Go.Proofs.YtnojgiflgmnjlaaGreatDoor.L3
namespace Go.Proofs.YtnojgiflgmnjlaaGreatDoor.L3
open Go.RowKit
def encE (c : Cp.C) : List Int:=(c.t % 256) :: (bytesN c.s.size (Cp.wd c.t).1 ++ ((Cp.bl c.s).map fun b=>(b.toNat : Int)) ++ bytesN c.n (Cp.wd c.t).2.1 ++ bytesN c.a (Cp.wd c.t).2.2.1 ++ bytesN c.b (Cp.wd c.t).2.2.2)
theorem cf_write (u v x : Value) (w : World) : (callFunc 86 #[u,v,x]).run Tryz.prog w = .ok (.enter 86 #[u,v,x]) w:=by kernel_rfl
theorem strI (s : ByteArray) : Lib.strCells s = ((Cp.bl s).map fun b=>(b.toNat : Int)).map (Value.int .u8):=by
 unfold Lib.strCells Cp.bl
 rw [List.map_map]
 rfl
theorem OwnI.app {w : World} {base : Nat} {v : Value} {a : List Int} {s : ByteArray} (h : w.ownsRow base 5 1 v (a.length + s.size) (a.map (Value.int .u8) ++ Lib.strCells s)) : OwnI w base v (a ++ ((Cp.bl s).map fun b=>(b.toNat : Int))):=by
 unfold OwnI
 rw [List.length_append,List.map_append,List.length_map,bl_len,← strI]
 exact h
theorem OwnI.at_len {w : World} {base : Nat} {v : Value} {l : List Int} (h : OwnI w base v l) (n : Nat) (hn : l.length = n) : w.ownsRow base 5 1 v n (l.map (Value.int .u8)):=by
 subst hn
 exact h
theorem OwnI.app_len {w : World} {base : Nat} {v : Value} {a : List Int} {s : ByteArray} {n : Nat} (h : w.ownsRow base 5 1 v (n + s.size) (a.map (Value.int .u8) ++ Lib.strCells s)) (hn : a.length = n) : OwnI w base v (a ++ ((Cp.bl s).map fun b=>(b.toNat : Int))):=by
 subst hn
 exact OwnI.app h
theorem own_ne {w : World} {base : Nat} {v : Value} {l : List Int} (h : OwnI w base v l) : ∀ k,v.ownBlock = some k → k < w.heap.size:=Kit.own_lt h
theorem own_formI {w : World} {base : Nat} {v : Value} {l : List Int} (h : OwnI w base v l) (n : Nat) (hn : l.length = n) (hl : 0 < n) : ∃ g cap,v = .slice (some ⟨g,0,none⟩) n cap:=by
 subst hn
 rcases h.2 with ⟨-,h2⟩|⟨g,cap,cur,rfl,-⟩
 ·rw [h2] at hl
  exact absurd hl (by decide)
 ·exact ⟨g,cap,rfl⟩
structure WSt (w : World) (base : Nat) (v0 : Value) (C X : Array Value) (B1 : Nat) (W : World) (v : Value) (l : List Int) : Prop where
 own : OwnI W base v l
 gr : Kit.Grows w W v0 v
 bc : BX W w.heap.size C 56
 bx : BX W B1 X 169
 ne : ∀ k,v.ownBlock = some k → k ≠ w.heap.size ∧ k ≠ B1
 le : base ≤ W.heap.size
theorem WSt.step {w : World} {base : Nat} {v0 : Value} {C X : Array Value} {B1 : Nat} {W W' : World} {v v' : Value} {l l' : List Int} (h : WSt w base v0 C X B1 W v l) (ho : OwnI W' base v' l') (g : Kit.Grows W W' v v') : WSt w base v0 C X B1 W' v' l':=by
 refine ⟨ho,h.gr.trans g,h.bc.grown g.grown ?_,h.bx.grown g.grown ?_,?_,Nat.le_trans h.le g.size⟩
 ·intro e
  exact (h.ne _ e).1 rfl
 ·intro e
  exact (h.ne _ e).2 rfl
 ·intro k e
  have h1:=h.bc.sz
  have h2:=h.bx.sz
  rcases g.blk with e2|⟨j,hj,e2⟩
  ·rw [e2] at e
   exact h.ne k e
  ·rw [e2] at e
   have:=Option.some.inj e
   omega
theorem WSt.first {w w1 w2 : World} {base : Nat} {v v1 : Value} {l : List Int} {z : Int} {C X : Array Value} (hb : base ≤ w.heap.size) (hlt : ∀ k,v.ownBlock = some k → k < w.heap.size) (hbw : Below w.heap.size w w1) (hbx : BX w1 w.heap.size C 56) (ho : w2.ownsRow base 5 1 v1 (l.length + 1) (l.map (Value.int .u8) ++ [.int .u8 z])) (hg : ((w1.alloc (.cells X 169)).alloc (.cells #[.int .u8 z] 5)).grownBy w2 v.ownBlock) (hk : v1.ownBlock = v.ownBlock ∨ v1.ownBlock = some (w1.heap.size + 1 + 1)) : WSt w base v C X w1.heap.size w2 v1 (l ++ [z]):=by
 have hz:=hbw.size
 have h1:=hbx.sz
 have B1 : Below w.heap.size w ((w1.alloc (.cells X 169)).alloc (.cells #[.int .u8 z] 5)):=(hbw.alloc hz _).alloc (by simp;omega) _
 have hzg:=hg.size
 simp only [World.size_alloc] at hzg
 have bc1 : BX ((w1.alloc (.cells X 169)).alloc (.cells #[.int .u8 z] 5)) w.heap.size C 56:=hbx.below (((Below.refl w1.heap.size w1).alloc (Nat.le_refl _) _).alloc (by simp) _) h1
 have bx1 : BX ((w1.alloc (.cells X 169)).alloc (.cells #[.int .u8 z] 5)) w1.heap.size X 169:=(BX.new w1 X 169).below ((Below.refl (w1.heap.size + 1) _).alloc (by simp) _) (by omega)
 refine ⟨OwnI.snoc ho,Kit.grows_append B1 hg (by simpa using hk),bc1.grown hg ?_,bx1.grown hg ?_,?_,by omega⟩
 ·intro e
  have:=hlt _ e
  omega
 ·intro e
  have:=hlt _ e
  omega
 ·intro k e
  rcases hk with h|h
  ·rw [h] at e
   have:=hlt _ e
   omega
  ·rw [h] at e
   have:=Option.some.inj e
   omega
theorem WSt.drew {w : World} {base : Nat} {v0 : Value} {C X : Array Value} {B1 : Nat} {W : World} {v : Value} {l : List Int} (h : WSt w base v0 C X B1 W v l) : WSt w base v0 C X B1 W.drew v l :=
 ⟨World.ownsRow.drew h.own,⟨⟨h.gr.grown.os,h.gr.grown.tape,h.gr.grown.output,h.gr.grown.size,h.gr.grown.block⟩,h.gr.blk⟩,h.bc,h.bx,h.ne,h.le⟩
theorem WSt.cells {w : World} {base : Nat} {v0 : Value} {c0 c1 c2 c3 c4 x0 x1 x2 x3 : Value} {B1 : Nat} {W : World} {v : Value} {l : List Int} (h : WSt w base v0 #[c0,c1,c2,c3,c4] #[x0,x1,x2,x3] B1 W v l) :
  W.cell? ⟨w.heap.size,1,none⟩ = some c1 ∧ W.cell? ⟨w.heap.size,2,none⟩ = some c2 ∧ W.cell? ⟨w.heap.size,3,none⟩ = some c3 ∧ W.cell? ⟨w.heap.size,4,none⟩ = some c4 ∧ W.cell? ⟨B1,0,none⟩ = some x0 ∧ W.cell? ⟨B1,1,none⟩ = some x1 ∧ W.cell? ⟨B1,2,none⟩ = some x2 ∧ W.cell? ⟨B1,3,none⟩ = some x3 :=
 ⟨h.bc.cell 1,h.bc.cell 2,h.bc.cell 3,h.bc.cell 4,h.bx.cell 0,h.bx.cell 1,h.bx.cell 2,h.bx.cell 3⟩
set_option maxHeartbeats 2000000 in
theorem writeEntry_any (base : Nat) (l : List Int) (v : Value) (c : Cp.C) (w : World) (ht : Tabs w) (ho : OwnI w base v l) (hb : base ≤ w.heap.size) (hl : l.length ≤ 1000000000000) (hs : c.s.size ≤ 255) :
  Calls Tryz.prog 88 #[v,.agg (cC c)] w fun e w'=>∃ v',e = .returned v' ∧ OwnI w' base v' (l ++ encE c) ∧ Kit.Grows w w' v v':=by
 have HW0:=fun W (h : Below w.heap.size w W)=>widthsOf_z c.t W (ht.below h ht.size)
 obtain ⟨⟨x0,x1,x2,x3⟩,hx⟩ : ∃ x,x = Cp.wd c.t:=⟨_,rfl⟩
 have hwl:=wd_le c.t
 unfold encE
 rw [← hx] at HW0 hwl ⊢
 dsimp only at HW0 hwl ⊢
 have HW:=hid HW0
 have HO:=hid ho
 have HI:=info_parts infoB
 obtain ⟨i0,hi,hz0,hz1,hz2⟩:=HI
 have hlt:=hid (own_ne ho)
 unfold cC
 clear HW0 hx ho ht
 go_enter Tryz.func88,Tryz.ntmps88
 go_wp2_with (first|(go_at_call 144;refine (HW.out _ BLw).mono ?_;rintro e w1 ⟨rfl,hb1⟩;have hbx:=(BX.new w #[.int .i64 c.t,.string c.s,.int .i64 c.n,.int .i64 c.a,.int .i64 c.b] 56).below hb1 (by simp);have c0:=hbx.cell 0;simp at c0;have hz3:=hb1.size;simp only [World.size_alloc] at hz3;have hzw : w.heap.size < w1.heap.size:=(by omega);have hbw:=belows (B:=w.heap.size) (a:=w) ((Below.refl _ w).alloc (Nat.le_refl _) _) hb1 (by simp))|(at_builtin;refine wpList_append_own_at _ rfl (.tmp 13) (.tmp 17) 22 rfl base 5 i0 _ 1 1 Tryz.underlying22 hi hz0 hz1 hz2 rfl (by decide) _ _ _ rfl (World.ownsRow.alloc (World.ownsRow.alloc (Kit.owns_below (World.ownsRow.alloc HO.out _) hb1 (Nat.le_refl _)) _) _) ⟨w1.heap.size + 1,0,none⟩ 1 1 [.int .u8 (c.t % 256)] rfl rfl ?_ (Kit.ones_one rfl) (by unfold maxLen;omega) (by omega) (by simp only [World.size_alloc];omega) ?_))
 ·have hn:=Kit.news_one (w1.alloc (.cells #[.int .i64 x0,.int .i64 x1,.int .i64 x2,.int .i64 x3] 169)) (.int .u8 (c.t % 256)) 5;rw [World.size_alloc] at hn;exact hn
 ·intro v1 w2 ho1' hg1 _ hk1
  have hs1:=WSt.first hb hlt.out hbw hbx ho1' hg1 hk1
  obtain ⟨g1,cap1,rfl⟩:=own_formI hs1.own (l.length + 1) (by simp) (by omega)
  obtain ⟨d1,d2,d3,d4,y0,y1,y2,y3⟩:=hs1.cells
  clear ho1' hg1 hk1
  have hs1':=hs1.drew
  go_wp2
  go_region_law (first
   | (refine Kit.step_call3 rfl 86 (.tmp 19) (.tmp 22) (.tmp 24) 22 2 3 rfl _ (.int .i64 c.s.size) (.int .i64 x0) rfl rfl rfl (cf_write _ _ _ _) _ (write_any base _ _ c.s.size x0 _ hs1'.own hs1'.le (by simp;omega) (by omega)) ?_;rintro e w3 ⟨v3,rfl,ho3,G3⟩;have hs3:=hs1'.step ho3 G3;obtain ⟨g3,cap3,rfl⟩:=own_formI hs3.own (l.length + 1 + x0) (by simp [bytesN_len];omega) (by omega);obtain ⟨e1,e2,e3,e4,z0,z1,z2,z3⟩:=hs3.cells;refine ⟨_,rfl,?_⟩)
   | (have _g:=hs3;refine Kit.step_append_str rfl (.tmp 25) (.tmp 27) 22 9 rfl base 5 i0 Tryz.underlying22 Tryz.underlying9 hi hz0 hz1 hz2 g3 (l.length + 1 + x0) cap3 _ rfl (hs3.own.at_len (l.length + 1 + x0) (by simp [bytesN_len];omega)) c.s rfl (by unfold maxLen;omega) (by omega) hs3.le ?_;intro v4 w4 ho4' hg4 hk4;have hs4:=hs3.step (OwnI.app_len ho4' (by simp [bytesN_len];omega)) (Kit.grows_append (Below.refl _ _) hg4 hk4);obtain ⟨g4,cap4,rfl⟩:=own_formI hs4.own (l.length + 1 + x0 + c.s.size) (by simp [bytesN_len];omega) (by omega);obtain ⟨f1,f2,f3,f4,m0,m1,m2,m3⟩:=hs4.cells))
  all_goals go_wp2_with (first
   | (go_at_call 86;have _g:=hs6;(with_reducible refine (write_any base _ _ c.b x3 _ hs6.own hs6.le (by simp [bytesN_len];omega) (by omega)).mono ?_);rintro e w7 ⟨v7,rfl,ho7,G7⟩;have hs7:=hs6.step ho7 G7)
   | (go_at_call 86;have _g:=hs5;(with_reducible refine (write_any base _ _ c.a x2 _ hs5.own hs5.le (by simp [bytesN_len];omega) (by omega)).mono ?_);rintro e w6 ⟨v6,rfl,ho6,G6⟩;have hs6:=hs5.step ho6 G6;obtain ⟨i1,i2,i3,i4,o0,o1,o2,o3⟩:=hs6.cells)
   | (go_at_call 86;(with_reducible refine (write_any base _ _ c.n x1 _ hs4.own hs4.le (by simp [bytesN_len];omega) (by omega)).mono ?_);rintro e w5 ⟨v5,rfl,ho5,G5⟩;have hs5:=hs4.step ho5 G5;obtain ⟨h1,h2,h3,h4,n0,n1,n2,n3⟩:=hs5.cells))
  all_goals go_ret
  all_goals exact ⟨v7,rfl,by have:=hs7.own;simpa only [List.append_assoc,List.cons_append,List.nil_append,List.singleton_append] using this,hs7.gr⟩
end Go.Proofs.YtnojgiflgmnjlaaGreatDoor.L3
namespace Go.Proofs.YtnojgiflgmnjlaaGreatDoor.L3
open Go.RowKit
attribute [local go_sem] Oper.semAt_some
theorem owns_empty {w : World} {base : Nat} {e : TypeId} {size : Nat} (hB : base ≤ w.heap.size) : (w.alloc (.cells #[] e)).ownsRow base e size (.slice (some ⟨w.heap.size,0,none⟩) 0 0) 0 [] :=
 ⟨by simp,.inr ⟨w.heap.size,0,#[],rfl,hB,heap_alloc_last w _,by omega,by unfold maxLen;omega,by simp,by simp⟩⟩
def ClonePost (l : List Cp.C) (w : World) (en : Ending) (w' : World) : Prop:=∃ v,en = .returned v ∧ OwnC w' w.heap.size v l ∧ Below w.heap.size w w'
set_option maxHeartbeats 400000 in
theorem cclone_some (l : List Cp.C) (ad : Addr) (cap : Nat) (w : World) (hn : l.length * 48 ≤ 140737488355328) (hc : ∀ j u,(l.flatMap cL)[j]? = some u → w.cell? (ad.add j) = some u) : Calls Tryz.prog 76 #[.slice (some ad) l.length cap] w (ClonePost l w):=by
 obtain ⟨i0,hi,hz0,hz1,hz2⟩:=info_parts infoC
 have hnil:=fun (W : World) (a : Option Addr) (n c : Nat)=>Lib.run_eql_slice_nil (P:=Tryz.prog) W 23 56 a n c 0 0 Tryz.underlying23
 have hlt : ∀ j u,(l.flatMap cL)[j]? = some u → (w.alloc (.cells #[] 56)).cell? (ad.add j) = some u:=fun j u h=>by
  have h2:=hc j u h
  rw [World.cell?_alloc_lt _ _ _ (World.block_lt_of_cell? w _ h2)]
  exact h2
 have HL:=hid hlt
 have hlen : (l.flatMap cL).length = l.length * 5:=Kit.flat_len cL_len l
 have HLen:=hid hlen
 have h1c : ∀ u ∈ l.flatMap cL,u.oneCell' = true:=by
  intro u hu
  rw [List.mem_flatMap] at hu
  obtain ⟨b,-,hb⟩:=hu
  exact ones_c b u hb
 have H1:=hid h1c
 clear hc hlt hlen h1c
 go_enter Tryz.func76,Tryz.ntmps76
 go_wp2_with (at_builtin;go_loud (refine wpList_append_own _ rfl (.tmp 5) (.tmp 6) 23 rfl w.heap.size 56 i0 _ 5 48 Tryz.underlying23 hi hz0 hz1 hz2 rfl (by decide) _ 0 [] rfl (owns_empty (Nat.le_refl _)) ad l.length cap (l.flatMap cL) rfl HLen.out HL.out H1.out (by unfold maxLen;omega) (by omega) (by simp) ?_);intro v1 w1 hown1 hgrow1 _)
 go_ret
 refine ⟨_,rfl,by unfold OwnC;simpa using hown1,Kit.below_grown BLw hgrow1 (by simp) (fun k hk=>?_)⟩
 have : some w.heap.size = some k:=hk
 exact Nat.le_of_eq (Option.some.inj this)
theorem cclone_nil (c : Nat) (w : World) : Calls Tryz.prog 76 #[.slice none 0 c] w (ClonePost [] w):=by
 have hnil:=fun (W : World) (a : Option Addr) (n c : Nat)=>Lib.run_eql_slice_nil (P:=Tryz.prog) W 23 56 a n c 0 0 Tryz.underlying23
 go_enter Tryz.func76,Tryz.ntmps76
 go_wp2
 go_ret
 exact ⟨_,rfl,⟨rfl,.inl ⟨rfl,rfl⟩⟩,BLw⟩
theorem cclone_any (l : List Cp.C) (v : Value) (w : World) (hl : Kit.IsS 5 w v l.length (l.flatMap cL)) (hn : l.length * 48 ≤ 140737488355328) : Calls Tryz.prog 76 #[v] w (ClonePost l w):=by
 rcases hl.2.2 with ⟨h0,a,cap,rfl⟩|⟨b,o,cap,rfl,hl,hlt,hc⟩
 ·obtain rfl:=List.length_eq_zero_iff.1 h0
  cases a with
  | none=>exact cclone_nil cap w
  | some ad=>exact cclone_some [] ad cap w (by simp) (fun j u h=>by simp at h)
 ·exact cclone_some l ⟨b,o,none⟩ cap w hn (fun j u h=>by rw [Go.WideShapes.add_plain];exact hc j u h)
def Kp (lo hi : Nat) (A B : World) : Prop:=A.heap.size ≤ B.heap.size ∧ ∀ k,lo ≤ k → k < hi → B.heap[k]? = A.heap[k]?
theorem Kp.refl (lo hi : Nat) (A : World) : Kp lo hi A A:=⟨Nat.le_refl _,fun _ _ _=>rfl⟩
theorem Kp.trans {lo hi : Nat} {A B C : World} (h : Kp lo hi A B) (k : Kp lo hi B C) : Kp lo hi A C:=⟨Nat.le_trans h.1 k.1,fun i h1 h2=>(k.2 i h1 h2).trans (h.2 i h1 h2)⟩
theorem Kp.below {lo hi n : Nat} {A B C : World} (h : Kp lo hi A B) (hb : Below n B C) (hn : hi ≤ n) : Kp lo hi A C:=h.trans ⟨hb.size,fun i _ h2=>hb.block i (by omega)⟩
theorem Kp.grown {lo hi : Nat} {A B C : World} {row : Option Nat} (h : Kp lo hi A B) (hg : B.grownBy C row) (hh : hi ≤ B.heap.size) (hr : ∀ k,row = some k → k < lo ∨ hi ≤ k) : Kp lo hi A C :=
 h.trans ⟨hg.size,fun i h1 h2=>hg.block i (by omega) (fun e=>by have:=hr i e.symm;omega)⟩
theorem Kp.putObj {lo hi : Nat} {w : World} (hn : hi ≤ w.heap.size) (W : World) (l : Nat) (o o' : Obj) (hl : w.heap.size ≤ l) (h : W.heap[l]? = some o) (_ : o.isCells = false) (_ : o.isWalk = false) : Kp lo hi W (W.putObj l o') :=
 (Kp.refl lo hi W).grown (grownBy_putObj' W l o') (by have:=(Array.getElem?_eq_some_iff.1 h).1;omega) (fun k e=>by cases e;omega)
def AllPost (l : List Cp.C) (w : World) (e : Ending) (w' : World) : Prop :=
 ∃ v,e = .returned (.func (.func 143) #[] #[.pointer (some ⟨w.heap.size,0,none⟩)]) ∧ (∀ X,Kp w.heap.size w'.heap.size w' X → Kit.IsS 5 X v l.length (l.flatMap cL) ∧ X.cell? ⟨w.heap.size,0,none⟩ = some v) ∧ Below w.heap.size w w' ∧ w.heap.size < w'.heap.size
theorem owns_at {w w' : World} {base : Nat} {e : TypeId} {size : Nat} {v : Value} {n : Nat} {xs : List Value} (h : w.ownsRow base e size v n xs) (hk : ∀ k,base ≤ k → k < w.heap.size → w'.heap[k]? = w.heap[k]?) : w'.ownsRow base e size v n xs:=by
 refine ⟨h.1,?_⟩
 rcases h.2 with h2|⟨g,cap,cur,hv,hg,hh,k⟩
 ·exact .inl h2
 ·exact .inr ⟨g,cap,cur,hv,hg,(hk g hg (Array.getElem?_eq_some_iff.1 hh).1).trans hh,k⟩
theorem all_any (l : List Cp.C) (v : Value) (w : World) (hl : Kit.IsS 5 w v l.length (l.flatMap cL)) (hn : l.length * 48 ≤ 140737488355328) : Calls Tryz.prog 87 #[v] w (AllPost l w):=by
 have HB:=hid (fun X (h : Below w.heap.size w X)=>hl.below h (Nat.le_refl _))
 obtain ⟨a,cap,hv⟩:=hl.len
 subst hv
 clear hl
 go_enter Tryz.func87,Tryz.ntmps87
 go_wp2_with (go_at_call 76;refine (cclone_any l _ _ (HB.out _ BLw) hn).mono ?_;rintro e w1 ⟨v1,rfl,o1,hb1⟩;obtain ⟨a1,cap1,hv1⟩:=(Kit.isS_of_owns o1 (by omega)).len;subst hv1;obtain ⟨hcc,hff⟩:=bcell hb1;have hz1:=hb1.size;simp only [World.size_alloc] at hz1)
 go_ret
 have hbox : Boxed w1 w.heap.size 23 (.slice a l.length cap):=(hb1.block w.heap.size (by simp)).trans (Boxed.new w _ _)
 have hb2:=(belows (a:=w) (B:=w.heap.size) (b:=w.alloc (.cells #[.slice a l.length cap] 23)) BLw hb1 (by simp)).setCell (p:=⟨w.heap.size,0,none⟩) (Nat.le_refl _) (.slice a1 l.length cap1)
 have hbx2:=hbox.set (.slice a1 l.length cap1)
 have o2 : OwnC (w1.setCell ⟨w.heap.size,0,none⟩ (.slice a1 l.length cap1)) (w.heap.size + 1) (.slice a1 l.length cap1) l:=owns_at (by have h9:=o1;unfold OwnC at h9;simpa using h9) (fun k h1 _=>Below.heap_setCell _ _ _ k (fun e=>by have : k = w.heap.size:=e;omega))
 have hsz : (w1.setCell ⟨w.heap.size,0,none⟩ (.slice a1 l.length cap1)).heap.size = w1.heap.size:=by simp
 refine ⟨_,rfl,fun X hX=>⟨Kit.isS_of_owns (owns_at o2 fun k h1 h2=>hX.2 k (by omega) h2) (by omega),?_⟩,hb2,by omega⟩
 have h3:=hX.2 w.heap.size (Nat.le_refl _) (by omega)
 have h4 : Boxed X w.heap.size 23 (.slice a1 l.length cap1):=h3.trans hbx2
 exact h4.cell
abbrev Tx (l : List Cp.C):={ x : Nat × Cp.C // l[x.1]? = some x.2 ∧ x.2.t ≠ 0 }
def told (l : List Cp.C) : Nat → List (Tx l)
 | 0=>[]
 | k + 1=>told l k ++ (match h : l[k]? with|some c=>if hc : c.t = 0 then [] else [⟨(k,c),h,hc⟩]|none=>[])
theorem told_yes {l : List Cp.C} {k : Nat} {c : Cp.C} (h : l[k]? = some c) (hc : c.t ≠ 0) : told l (k + 1) = told l k ++ [⟨(k,c),h,hc⟩]:=by
 show told l k ++ _ = _
 congr 1
 split
 ·rename_i d hd
  obtain rfl:=Option.some.inj (hd.symm.trans h)
  rw [dif_neg hc]
 ·rename_i hd
  rw [hd] at h
  cases h
theorem told_no {l : List Cp.C} {k : Nat} {c : Cp.C} (h : l[k]? = some c) (hc : c.t = 0) : told l (k + 1) = told l k:=by
 show told l k ++ _ = _
 split
 ·rename_i d hd
  obtain rfl:=Option.some.inj (hd.symm.trans h)
  rw [dif_pos hc,List.append_nil]
 ·rw [List.append_nil]
theorem told_len (l : List Cp.C) : ∀ k,(told l k).length ≤ k
 | 0=>Nat.le_refl _
 | k + 1=>by
  show (told l k ++ _).length ≤ _
  have:=told_len l k
  rw [List.length_append]
  split
  ·split <;> simp <;> omega
  ·simp;omega
def entE {l : List Cp.C} (x : Tx l) : Array Value:=#[.int .i64 (x.1.1 : Int),.agg (cC x.1.2)]
theorem abides_new {β : Type} {B : Nat} {J : β → World → Prop} (h : AbidesFrom B J) {s : β} {W W' : World} (hs : J s W) (hb : Below W.heap.size W W') : J s W' :=
 h s W W' none hs ⟨hb.os,hb.tape,hb.output,hb.size,fun i hi _=>hb.block i hi⟩ (fun r e=>by cases e)
set_option maxHeartbeats 2000000 in
theorem all1_stops (l : List Cp.C) (v : Value) (lo Bs n : Nat) (w : World) (hn : 1 ≤ n) (hb : ∀ X,Kp lo w.heap.size w X → Kit.IsS 5 X v l.length (l.flatMap cL) ∧ X.cell? ⟨Bs,0,none⟩ = some v) :
  SeqStopsK Fence.wide n Tryz.prog 143 #[.pointer (some ⟨Bs,0,none⟩)] entE (Kp lo w.heap.size) (fun ys=>ys = told l l.length) (fun ys=>∃ k,k ≤ l.length ∧ ys = told l k) l.length w:=fun D J Jx W hW hJ _ hY h0=>by
 have HB:=hid hb
 obtain ⟨a,cap,hv⟩:=(hb w (Kp.refl _ _ _)).1.len
 subst hv
 have hlen:=(hb w (Kp.refl _ _ _)).1.2.1
 have hKW : Kp lo w.heap.size w W:=(Kp.refl _ _ _).below hW (Nat.le_refl _)
 have hcW:=(hb W hKW).2
 clear hb
 refine callsIn_of_wp Tryz.func143 rfl trivial ?_ rfl
 simp only [Tryz.ntmps143,List.size_toArray,List.length_cons,List.length_nil,Nat.reduceAdd,Nat.reduceSub,Array.replicate_succ,Array.replicate_zero,List.push_toArray,List.append_toArray,List.nil_append,List.cons_append]
 gi_wp2
 gi_loopw [7] (fun i wr=>∃ k : Nat,k ≤ l.length ∧ i = .int .i64 k ∧ J (told l k) wr ∧ W.heap.size ≤ wr.heap.size ∧ Kp lo w.heap.size w wr) (fun i _=>l.length - (intOf i).toNat)
 case atStart=>exact ⟨0,by omega,rfl,h0,Nat.le_refl _,hKW⟩
 case round =>
  obtain ⟨k,hk,rfl,hJs,hzW,hbl⟩:=hrel
  have hzr:=hbl.1
  by_cases hlt : k < l.length
  ·obtain ⟨⟨ct,cs,cn,ca,cb⟩,hx⟩ : ∃ x,l[k]? = some x:=⟨l[k],List.getElem?_eq_getElem hlt⟩
   obtain ⟨b,o,cap',hv,hbb,c0,c1,c2,c3,c4⟩:=c_at (HB.out wr hbl).1 hx
   obtain ⟨rfl,-,rfl⟩:=Value.slice.inj hv
   dsimp only at c0 c1 c2 c3 c4
   have hki : (k : Int) < (l.length : Int):=by omega
   by_cases ht : ct = 0
   ·have HT:=hid (told_no hx ht)
    have hb1 : (ct != 0) = false:=by simpa using ht
    have HJ:=hid (fun X (h : Below wr.heap.size wr X)=>abides_new hJ hJs h)
    clear hx hv ht
    gi_wp2
    refine ⟨fun _ h=>(by cases h),?_⟩
    gi_wp2
    go_roundw
    case rel=>exact ⟨k + 1,by omega,by go_num,by rw [HT.out];exact HJ.out _ BLw,by simp only [World.size_alloc];omega,hbl.below ((Below.refl wr.heap.size wr).alloc (Nat.le_refl _) _) hzr⟩
    case measure=>simp [intOf];omega
   ·have HT:=hid (told_yes hx ht)
    have hb1 : (ct != 0) = true:=by simpa using ht
    have hln : (told l k).length < l.length:=by have:=told_len l k;omega
    have HY:=hid (fun X (h : Below wr.heap.size wr X)=>hY (told l k) ⟨(k,⟨ct,cs,cn,ca,cb⟩),hx,ht⟩ X (abides_new hJ hJs h) hln)
    clear hv
    obtain ⟨fn,tmps,assign,body,hy,hR⟩:=HY.out (wr.alloc (.cells #[.int .i64 ct,.string cs,.int .i64 cn,.int .i64 ca,.int .i64 cb] 56)) BLw
    unfold entE cC at hy
    dsimp only at hy
    gi_wp2
    refine hR.mono ?_
    rintro e W3 (⟨rfl,hJ3,hk3⟩|⟨rfl,hJx3⟩)
    ·gi_wp2
     go_roundw
     case rel=>exact ⟨k + 1,by omega,by go_num,by rw [HT.out];exact hJ3,(by have:=hk3.1;simp only [World.size_alloc] at this;omega),(hbl.below ((Below.refl wr.heap.size wr).alloc (Nat.le_refl _) _) hzr).trans hk3⟩
     case measure=>simp [intOf];omega
    ·gi_wp2
     refine bodyPost_ret (results_none rfl _ _ _) rfl ?_
     exact ⟨⟨_,rfl⟩,.inr ⟨_,⟨k + 1,by omega,HT.out.symm⟩,hJx3⟩⟩
  ·obtain rfl : k = l.length:=by omega
   gi_wp2
   refine bodyPost_end (results_none rfl _ _ _) rfl ?_
   exact ⟨⟨_,rfl⟩,.inl ⟨_,rfl,hJs⟩⟩
end Go.Proofs.YtnojgiflgmnjlaaGreatDoor.L3
