/- Own texts for the claim, part 8. -/
import Derived.Test.YtnojgiflgmnjlaaGreatDoorZD7
set_option maxRecDepth 100000
namespace Go.Proofs.YtnojgiflgmnjlaaGreatDoor.L3
open Go.RowKit
attribute [local go_sem] Oper.semAt_some
def encT {l : List Cp.C} (ys : List (Tx l)) : List Int:=ys.flatMap fun x=>encE x.1.2
theorem encT_snoc {l : List Cp.C} (ys : List (Tx l)) (x : Tx l) : encT (ys ++ [x]) = encT ys ++ encE x.1.2:=by
 unfold encT
 rw [List.flatMap_append]
 simp
def putB (l : List Cp.C) : List Int:=bytesN l.length 2 ++ encT (told l l.length)
theorem encE_len (c : Cp.C) (h : c.s.size ≤ 255) : (encE c).length ≤ 300:=by
 unfold encE
 have:=wd_le c.t
 simp only [List.length_cons,List.length_append,List.length_map,bytesN_len,bl_len]
 omega
theorem ck_size {l : List Cp.C} (h : CkIs l 0) : l.length ≤ 4096 ∧ ∀ (x : Tx l),ceOut x.1.2 = 0:=by
 rcases h with ⟨-,h⟩|⟨h1,⟨-,h⟩|⟨-,-,-,h,-⟩⟩
 ·omega
 ·refine ⟨h1,fun x=>?_⟩
  obtain ⟨⟨k,c⟩,hx,ht⟩:=x
  dsimp only at hx ht ⊢
  have hk : k < l.length:=by rw [List.getElem?_eq_some_iff] at hx;exact hx.1
  have h2:=h k hk
  unfold errAt at h2
  rw [hx] at h2
  dsimp only at h2
  by_cases hp : prevB l k = true
  ·rw [if_pos hp] at h2
   by_cases hc : c = Cp.C0
   ·rw [hc] at ht
    exact absurd rfl ht
   ·rw [if_neg hc] at h2
    omega
  ·rw [if_neg hp] at h2
   by_cases hl : c.t = 5 ∧ k = l.length - 1
   ·rw [if_pos hl] at h2
    omega
   ·rw [if_neg hl] at h2
    exact h2
 ·exact absurd rfl h
theorem ce_size {c : Cp.C} (h : ceOut c = 0) : Cp.knownB c.t = true ∧ cutW c (Cp.wd c.t) = c ∧ c.s.size ≤ 255 ∧ Cp.plainB (Cp.bl c.s) = true:=by
 unfold ceOut at h
 by_cases h1 : Cp.knownB c.t = false ∨ cutW c (Cp.wd c.t) ≠ c
 ·rw [if_pos h1] at h
  omega
 ·rw [if_neg h1] at h
  by_cases h2 : 255 < c.s.size ∨ Cp.plainB (Cp.bl c.s) = false
  ·rw [if_pos h2] at h
   omega
  ·refine ⟨?_,?_,?_,?_⟩
   ·cases h3 : Cp.knownB c.t
    ·exact absurd (.inl h3) h1
    ·rfl
   ·exact Decidable.of_not_not fun h3=>h1 (.inr h3)
   ·exact Nat.le_of_not_lt fun h3=>h2 (.inl h3)
   ·cases h3 : Cp.plainB (Cp.bl c.s)
    ·exact absurd (.inr h3) h2
    ·rfl
theorem encT_len {l : List Cp.C} (h : ∀ (x : Tx l),ceOut x.1.2 = 0) : ∀ ys : List (Tx l),(encT ys).length ≤ 300 * ys.length
 | []=>by simp [encT]
 | x :: ys=>by
  have h1:=encT_len h ys
  have h2:=encE_len x.1.2 (ce_size (h x)).2.2.1
  unfold encT at h1 ⊢
  rw [List.flatMap_cons,List.length_append,List.length_cons]
  omega
def PutPost (l : List Cp.C) (w : World) (e : Ending) (w' : World) : Prop :=
 ∃ er,CkIs l er ∧ (er ≠ 0 → e = .returned (.tuple #[.slice none 0 0,.int .i64 er])) ∧ (er = 0 → ∃ v,e = .returned (.tuple #[v,.int .i64 0]) ∧ OwnI w' w.heap.size v (putB l)) ∧ Below w.heap.size w w'
theorem own_others {w w' : World} {base : Nat} {v v' : Value} {l : List Int} (h : OwnI w base v l) (g : Kit.Grows w w' v v') : KeepsOthers w w':=by
 refine ⟨g.size,fun k o hk ho=>?_⟩
 refine (g.grown.block k (Array.getElem?_eq_some_iff.1 hk).1 ?_).trans hk
 intro e
 rcases h.2 with ⟨rfl,-⟩|⟨b,cap,cur,rfl,hg,hh,-⟩
 ·simp [Value.ownBlock] at e
 ·simp only [Value.ownBlock,Option.some.injEq] at e
  subst e
  rw [hh] at hk
  obtain rfl:=Option.some.inj hk
  simp [Obj.isCells] at ho
theorem ownI_own {β : Type} (base : Nat) (v : β → Value) (l : β → List Int) : Own (fun s W=>OwnI W base (v s) (l s)):=fun s X Y row hs hg hr=>by
 refine World.ownsRow.kept hs hg ?_
 rcases hs.2 with ⟨h1,-⟩|⟨b,cap,cur,h1,hb,hh,-⟩
 ·rw [h1]
  exact .inl rfl
 ·rw [h1]
  refine .inr fun e=>?_
  obtain ⟨o,ho,hc⟩:=hr b (by rw [← e];rfl)
  rw [hh] at ho
  obtain rfl:=Option.some.inj ho
  simp [Obj.isCells] at hc
def PutI (l : List Cp.C) (B5 lo hi : Nat) (w : World) (pre : List (Tx l)) (W : World) : Prop :=
 ∃ u,Boxed W B5 22 u ∧ OwnI W w.heap.size u (bytesN l.length 2 ++ encT pre) ∧ (∀ k,u.ownBlock = some k → k ≠ B5 ∧ (k < lo ∨ hi ≤ k)) ∧ Below w.heap.size w W ∧ hi ≤ W.heap.size
theorem PutI.own {l : List Cp.C} {B5 lo hi n : Nat} {w : World} (hn : w.heap.size ≤ n) : OwnFrom n (PutI l B5 lo hi w):=by
 rintro pre A B row ⟨u,h1,h2,h3,h4,h5⟩ hg hr
 exact ⟨u,boxed_own _ _ (fun _ : Unit=>u) () A B row h1 hg (fun r e=>(hr r e).2),ownI_own _ (fun _ : Unit=>u) (fun _=>_) () A B row h2 hg (fun r e=>(hr r e).2),h3,h4.grown hg h4.size (fun k e=>by have:=(hr k e).1;omega),Nat.le_trans h5 hg.size⟩
theorem PutI.next {l : List Cp.C} {B5 lo hi : Nat} {w W W1 : World} {u u1 : Value} {L : List Int} {pre : List (Tx l)} {x : Tx l} (i5 : Boxed W B5 22 u) (ho : OwnI W w.heap.size u L) (hne : ∀ k,u.ownBlock = some k → k ≠ B5 ∧ (k < lo ∨ hi ≤ k))
  (hB : Below w.heap.size w W) (hh : hi ≤ W.heap.size) (hlo : B5 < lo) (hb5 : w.heap.size ≤ B5) (hL : L = bytesN l.length 2 ++ encT pre) (ho1 : OwnI W1 w.heap.size u1 (L ++ encE x.1.2)) (G : Kit.Grows W W1 u u1) :
  KeepsOthers W (W1.setCell ⟨B5,0,none⟩ u1) ∧ Kp lo hi W (W1.setCell ⟨B5,0,none⟩ u1) ∧ PutI l B5 lo hi w (pre ++ [x]) (W1.setCell ⟨B5,0,none⟩ u1):=by
 have h5 : B5 < W.heap.size:=(Array.getElem?_eq_some_iff.1 i5).1
 have hz:=G.size
 have i5' : Boxed W1 B5 22 u:=(G.grown.block B5 h5 (fun e=>(hne B5 e.symm).1 rfl)).trans i5
 have hne1 : ∀ k,u1.ownBlock = some k → k ≠ B5 ∧ (k < lo ∨ hi ≤ k):=by
  intro k e
  rcases G.blk with e2|⟨j,hj,e2⟩
  ·rw [e2] at e
   exact hne k e
  ·rw [e2] at e
   have:=Option.some.inj e
   omega
 refine ⟨(own_others ho G).trans (KeepsOthers.setCell _ _ _),((Kp.refl lo hi W).grown G.grown hh (fun k e=>(hne k e).2)).grown (grownBy_setCell' W1 ⟨B5,0,none⟩ u1) (by omega) (fun k e=>by cases e;exact .inl hlo),u1,i5'.set _,?_,hne1,?_,by rw [show (W1.setCell ⟨B5,0,none⟩ u1).heap.size = W1.heap.size by simp];omega⟩
 ·rw [encT_snoc,← List.append_assoc,← hL]
  refine World.ownsRow.kept ho1 (grownBy_setCell' W1 ⟨B5,0,none⟩ u1) (.inr fun e=>?_)
  exact (hne1 B5 e).1 rfl
 ·exact (G.to_below hB hB.size (fun k e=>Kit.own_base ho k e)).setCell (p:=⟨B5,0,none⟩) hb5 _
set_option maxHeartbeats 2000000 in
theorem put_any (l : List Cp.C) (v : Value) (w : World) (ht : Tabs w) (hv : Kit.IsS 5 w v l.length (l.flatMap cL)) (hs : ∀ c ∈ l,c.s.size ≤ 140737488355328) : Calls Tryz.prog 44 #[v] w (PutPost l w):=by
 have hs0:=ht.size
 have HCk:=hid (fun W (h : Below w.heap.size w W)=>check_any l v W (ht.below h ht.size) (hv.below h (Nat.le_refl _)) hs)
 have HT:=hid (fun W (h : Below w.heap.size w W)=>ht.below h ht.size)
 have HV:=hid (fun W (h : Below w.heap.size w W)=>hv.below h (Nat.le_refl _))
 obtain ⟨a,cap,hv2⟩:=hv.len
 subst hv2
 have hlen:=hv.2.1
 clear ht hv hs
 by_cases h0 : CkIs l 0
 case neg =>
  have H0:=hid h0
  clear h0
  go_enter Tryz.func44,Tryz.ntmps44
  go_wp2_with (go_at_call 85;refine (HCk.out _ BLw).mono ?_;rintro e w1 ⟨er,hck,rfl,hb1⟩;have hne : (er != 0) = true:=(by (simp;rintro rfl;exact H0.out hck));have HK:=hid hck;clear hck)
  go_ret2
  exact ⟨er,HK.out,fun _=>rfl,fun h=>absurd (h ▸ HK.out) H0.out,BLw⟩
 case pos =>
 have HS:=hid (ck_size h0)
 have H0:=hid h0
 have hl4:=HS.out.1
 clear h0
 refine (callsIn_wide (n:=5)).1 ?_
 refine callsIn_of_wp_marks Tryz.func44 rfl trivial ?_ rfl
 simp only [Tryz.ntmps44,List.size_toArray,List.length_cons,List.length_nil,Nat.reduceAdd,Nat.reduceSub,Array.replicate_succ,Array.replicate_zero,List.push_toArray,List.append_toArray,List.nil_append,List.cons_append]
 gi_wp2_with (first
  | (refine ⟨trivial,?_⟩;gi_at_call 85;refine (callsIn_wide.2 (HCk.out _ BLw)).mono ?_;rintro e w1 ⟨er,hck,rfl,hb1⟩;obtain rfl:=CkIs.det hck H0.out;clear hck;have hz1:=hb1.size)
  | (refine ⟨trivial,?_⟩;gi_at_call 86;refine (callsIn_wide.2 (write_any w.heap.size [] _ l.length 2 w1 (nilI _ _) hz1 (by simp) (by omega))).mono ?_;rintro e w2 ⟨v2,rfl,ho2,G2⟩;rw [List.nil_append] at ho2;have hb2:=G2.to_below hb1 hz1 (by intro k hk;simp [Value.ownBlock] at hk);have hz2:=hb2.size;obtain ⟨g2,cap2,rfl⟩:=own_formI ho2 2 (bytesN_len _ _) (by decide))
  | (refine ⟨trivial,?_⟩;gi_at_call 87;refine (callsIn_wide.2 (all_any l _ _ (HV.out _ BLw) (by omega))).mono ?_;rintro e w3 ⟨v3,rfl,hX,hb3,hz3⟩))
 have j5 : Boxed w3 w2.heap.size 22 (.slice (some ⟨g2,0,none⟩) 2 cap2):=(hb3.block w2.heap.size (by simp)).trans (Boxed.new w2 _ _)
 have hb3':=hb3
 simp only [World.size_alloc] at hb3' hz3 hX
 have o3 : OwnI w3 w.heap.size (.slice (some ⟨g2,0,none⟩) 2 cap2) (bytesN l.length 2):=Kit.owns_below (World.ownsRow.alloc ho2 _) hb3 (Nat.le_refl _)
 have hg2:=Kit.own_lt ho2
 have hB3 : Below w.heap.size w w3:=belows (hb2.alloc hz2 _) hb3 (by simp only [World.size_alloc];omega)
 have HW:=hid (fun (x : Tx l)=>(ce_size (HS.out.2 x)).2.2.1)
 have HL:=hid (encT_len HS.out.2)
 have hkX : Hid (∀ X,Kp (w2.heap.size + 1) w3.heap.size w3 X → Kit.IsS 5 X v3 l.length (l.flatMap cL) ∧ X.cell? ⟨w2.heap.size + 1,0,none⟩ = some v3):=hX
 have hB3z:=hB3.size
 clear hX hb1 hb2 hb3 hb3' ho2 G2
 refine wpIn_rangeFunc_ownH rfl (by omega) (gf:=143) (lb:=#[.pointer (some ⟨w2.heap.size + 1,0,none⟩)]) rfl trivial (enters_of Tryz.func143 (by kernel_rfl) rfl)
  (all1_stops l v3 (w2.heap.size + 1) (w2.heap.size + 1) (5 - 1) w3 (by omega) hkX.out) (fun h k=>Kp.trans h k) (Kp.putObj (Nat.le_refl _)) (Below.refl _ _) (fun _=>rfl)
  (PutI l w2.heap.size (w2.heap.size + 1) w3.heap.size w) (fun _ _ _=>False) (PutI.own hB3.size) (fun _ _ _ _ _ h _ _=>h)
  ⟨_,j5,by simpa [encT] using o3,fun k e=>?_,hB3,Nat.le_refl _⟩
  (fun x a' W=>∃ Bx,w3.heap.size ≤ Bx ∧ BX W Bx (cC x.1.2) 56 ∧ a' = { tmps:=#[.slice a l.length cap,undef,.slice none 0 0,.int .i64 0,.int .i64 0,.pointer (some ⟨w2.heap.size,0,none⟩),undef,.pointer (some ⟨Bx,0,none⟩),.slice a l.length cap,.int .i64 0,.int .i64 0,.bool false,undef,.slice a l.length cap,.int .i64 l.length,.slice (some ⟨g2,0,none⟩) 2 cap2,.slice a l.length cap,.func (.func 143) #[] #[.pointer (some ⟨w2.heap.size + 1,0,none⟩)],.int .i64 (x.1.1 : Int),.agg (cC x.1.2),undef,undef,undef,undef],defers:=[] })
  (fun x a'=>Own.from (fun s A B row hs hg hr=>by
   obtain ⟨Bx,h1,h2,h3⟩:=hs
   exact ⟨Bx,h1,(hg.block Bx h2.sz (fun e=>by obtain ⟨o,ho,hc⟩:=hr Bx e.symm;rw [show A.heap[Bx]? = _ from h2] at ho;cases ho;cases hc)).trans h2,h3⟩) _) ?assign ?body ?done ?stop
 case assign =>
  rintro D pre ⟨⟨k,ct,cs,cn,ca,cb⟩,hx⟩ W K hI hK
  unfold entE cC
  gi_wp2
  exact hK _ _ ((KeepsOthers.alloc _ _).from _) ((Kp.refl _ _ W).below ((Below.refl W.heap.size W).alloc (Nat.le_refl _) _) (by obtain ⟨u,-,-,-,-,h⟩:=hI;exact h)) ((PutI.own hB3.size).alloc _ hI) ⟨W.heap.size,(by obtain ⟨u,-,-,-,-,h⟩:=hI;exact h),BX.new W _ _,rfl⟩
 case body =>
  rintro D pre ⟨⟨k,ct,cs,cn,ca,cb⟩,hx⟩ a' W hl ⟨r,hr⟩ ⟨u,i5,ho,hne,hB,hh⟩ ⟨Bx,hBx,bX,rfl⟩ hlt
  have hlb:=HL.out pre
  have hcs:=HW.out ⟨(k,⟨ct,cs,cn,ca,cb⟩),hx⟩
  have H2 : (bytesN (l.length : Int) 2).length = 2:=bytesN_len _ _
  obtain ⟨L,hL⟩ : ∃ L,L = bytesN l.length 2 ++ encT pre:=⟨_,rfl⟩
  have hLl : L.length = 2 + (encT pre).length:=by rw [hL,List.length_append,H2]
  rw [← hL] at ho
  obtain ⟨n,hn⟩ : ∃ n,L.length = n:=⟨_,rfl⟩
  obtain ⟨g5,cap5,rfl⟩:=own_formI ho n hn (by omega)
  have c5:=i5.cell
  have x0:=bX.cell 0
  have x1:=bX.cell 1
  have x2:=bX.cell 2
  have x3:=bX.cell 3
  have x4:=bX.cell 4
  have hbz:=hB.size
  have HC:=hid (writeEntry_any w.heap.size L (.slice (some ⟨g5,0,none⟩) n cap5) ⟨ct,cs,cn,ca,cb⟩ W (HT.out W hB) ho hbz (by omega) hcs)
  have HN:=hid (fun W1 u1=>PutI.next (l:=l) (W1:=W1) (u1:=u1) (x:=⟨(k,⟨ct,cs,cn,ca,cb⟩),hx⟩) i5 ho hne hB hh (Nat.lt_succ_self _) hz2 hL)
  have hf5:=hne
  have hne5 : g5 ≠ w2.heap.size:=(hne g5 (by simp [Value.ownBlock])).1
  have h5lt:=(Array.getElem?_eq_some_iff.1 i5).1
  have I5:=hid i5
  unfold cC at x0 x1 x2 x3 x4 HC ⊢
  simp at x0 x1 x2 x3 x4
  clear hne hL ho hr hlb hf5 hLl H2 i5 hlt bX
  dsimp only
  gi_wp2
  refine ⟨trivial,?_⟩
  refine (CallsIn.inRound D (callsIn_wide.2 HC.out)).mono ?_
  rintro e W1 ⟨u1,rfl,ho1,G1⟩
  have HE:=hid (HN.out W1 u1 ho1 G1)
  have hz7:=G1.size
  obtain ⟨g6,cap6,rfl⟩:=own_formI ho1 (n + (encE ⟨ct,cs,cn,ca,cb⟩).length) (by rw [List.length_append,hn]) (by unfold encE;rw [List.length_cons];omega)
  have hne6 : some w2.heap.size ≠ (Value.slice (some ⟨g5,0,none⟩) n cap5).ownBlock:=by
   intro e
   have e2 : w2.heap.size = g5:=by simpa [Value.ownBlock] using e
   omega
  have i6 : Boxed W1 w2.heap.size 22 (.slice (some ⟨g5,0,none⟩) n cap5):=(G1.grown.block w2.heap.size h5lt hne6).trans I5.out
  have c6:=i6.cell
  have f6:=i6.frozen
  gi_wp2
  exact ⟨HE.out.1.from _,HE.out.2.1,HE.out.2.2⟩
 case done =>
  rintro D ys W hD rfl ⟨u,i5,ho,hne,hB,hh⟩ hK
  have c5:=i5.cell
  have H2 : (bytesN (l.length : Int) 2).length = 2:=bytesN_len _ _
  obtain ⟨g5,cap5,rfl⟩:=own_formI ho _ rfl (by rw [List.length_append,H2];omega)
  have HO:=hid (fun W' (hg : W.grownBy W' (some D))=>ownI_own w.heap.size (fun _ : Unit=>_) (fun _=>_) () W W' (some D) ho hg (fun r e=>by cases e;exact ⟨_,hK,rfl⟩))
  obtain ⟨n,hn⟩ : ∃ n,(bytesN (l.length : Int) 2 ++ encT (told l l.length)).length = n:=⟨_,rfl⟩
  rw [hn] at c5 HO
  clear hne ho i5
  gi_wp2
  refine ⟨by simp,.inl ⟨_,_,rfl,run_takeDeferred hK,?_⟩⟩
  refine ⟨.tuple #[.slice (some ⟨g5,0,none⟩) n cap5,.int .i64 0],?_,0,H0.out,fun h=>absurd rfl h,fun _=>⟨_,rfl,HO.out _ (grownBy_putObj' _ D (.deferred none))⟩,hB.trans (belowK_b (w:=w) (Nat.le_refl _) _ D _ _ (by omega) hK rfl rfl)⟩
  simp [results,Tryz.f44,go_sem]
 case stop =>
  rintro D c pre W hD _ h
  exact h.elim
 ·have : g2 = k:=by simpa [Value.ownBlock] using e
  have:=hg2 k e
  omega
end Go.Proofs.YtnojgiflgmnjlaaGreatDoor.L3
namespace Go.Proofs.YtnojgiflgmnjlaaGreatDoor.L3
open Go.RowKit
def I6 (z : Int) : Prop:=-9223372036854775808 ≤ z ∧ z ≤ 9223372036854775807
def eOk (t : Int) (s : ByteArray) (n a b : Int) : Prop:=(n = 0 ∨ t = 5 ∨ (t = 3 ∧ n = IntKind.i32.wrap n)) ∧ (a = 0 ∨ (7 ≤ t ∧ 0 < a ∧ a ≤ 65535)) ∧ (b = 0 ∨ (7 < t ∧ 0 < b ∧ b ≤ 65535)) ∧ (t = 1 ∨ s = ⟨#[]⟩)
theorem sgn_0 (z : Int) : sgn z 0 = 0:=rfl
theorem sgn_4 (z : Int) : sgn z 4 = IntKind.i32.wrap z:=rfl
theorem sgn_8 {z : Int} (h : I6 z) : sgn z 8 = z:=by
 unfold I6 at h
 show IntKind.i64.wrap z = z
 exact IntWalk.i64_in _ (by omega)
theorem uns_2 (z : Int) : uns z 2 = z ↔ (z = 0 ∨ (0 < z ∧ z ≤ 65535)):=by
 show z % 65536 = z ↔ _
 omega
theorem cut_ok {t : Int} {s : ByteArray} {n a b : Int} (hk : Cp.knownB t = true) (hn : I6 n) : cutW ⟨t,s,n,a,b⟩ (Cp.wd t) = ⟨t,s,n,a,b⟩ ↔ eOk t s n a b:=by
 unfold Cp.knownB at hk
 have hk2:=of_decide_eq_true hk
 unfold cutW eOk
 simp only [Cp.C.mk.injEq,true_and]
 have e8:=sgn_8 hn
 have e4:=sgn_4 n
 have e0:=sgn_0 n
 have u2:=uns_2 a
 have v2:=uns_2 b
 have u0 : uns a 0 = 0:=rfl
 have v0 : uns b 0 = 0:=rfl
 generalize hs0 : (⟨#[]⟩ : ByteArray) = s0
 have hw : (n = 0 ∨ n = IntKind.i32.wrap n) ↔ n = IntKind.i32.wrap n:=by
  constructor
  ·rintro (rfl|h)
   ·rfl
   ·exact h
  ·exact .inr
 rcases hk2 with rfl|rfl|rfl|rfl|rfl|rfl|rfl
 all_goals simp [Cp.wd,e8,e4,e0,u2,v2,u0,v0,hw,eq_comm]
 all_goals simp only [and_comm,and_left_comm,and_assoc]
theorem ce_no {t : Int} {s : ByteArray} {n a b : Int} (hk : Cp.knownB t = true) (hn : I6 n) (h : ¬ eOk t s n a b) : ceOut ⟨t,s,n,a,b⟩ = 31:=by
 unfold ceOut
 exact if_pos (.inr fun e=>h ((cut_ok hk hn).1 e))
theorem ce_yes {t : Int} {s : ByteArray} {n a b : Int} (hk : Cp.knownB t = true) (hn : I6 n) (h : eOk t s n a b) : ceOut ⟨t,s,n,a,b⟩ = if (Cp.plainB (Cp.bl s) && decide (s.size ≤ 255)) = true then 0 else 32:=by
 unfold ceOut
 rw [if_neg (by rintro (e|e);rw [hk] at e;cases e;exact e ((cut_ok hk hn).2 h))]
 dsimp only
 cases Cp.plainB (Cp.bl s) with
 | false=>simp
 | true =>
  by_cases h1 : s.size ≤ 255
  ·rw [if_neg (by rintro (h|h);omega;cases h)];simp [h1]
  ·rw [if_pos (.inl (by omega))];simp [h1]
set_option maxHeartbeats 4000000 in
theorem rentry_any (c : Cp.C) (w : World) (hs : c.s.size ≤ 140737488355328) (hn : I6 c.n) : Calls Tryz.prog 113 #[.agg (cC c)] w fun e w'=>e = .returned (.int .i64 (ceOut c)) ∧ Below w.heap.size w w':=by
 obtain ⟨t,s,n,a,b⟩:=c
 dsimp only at hs hn
 have HX0:=fun W=>texts_any s W hs
 have HK0:=fun W=>known_any t W
 unfold cC
 dsimp only
 cases hk : Cp.knownB t with
 | false =>
  rw [hk] at HK0
  have HK:=hid HK0
  have HE:=hid (show ceOut ⟨t,s,n,a,b⟩ = 31 from if_pos (.inl hk))
  clear hk HK0 HX0 hs hn
  go_enter Tryz.func113,Tryz.ntmps113
  go_wp2_with (go_at_call 139;refine (HK.out _).mono ?_;rintro e w1 ⟨rfl,rfl⟩)
  go_ret
  exact ⟨by rw [HE.out];rfl,BLw⟩
 | true =>
 rw [hk] at HK0
 have HK:=hid HK0
 have HN0:=(fun h=>ce_no (s:=s) (a:=a) (b:=b) hk hn h)
 have HY0:=(fun h=>ce_yes (s:=s) (a:=a) (b:=b) hk hn h)
 obtain ⟨er,her⟩ : ∃ er,er = ceOut ⟨t,s,n,a,b⟩:=⟨_,rfl⟩
 rw [← her] at HN0 HY0 ⊢
 have HN:=hid HN0
 obtain ⟨r,hr⟩ : ∃ r,r = (Cp.plainB (Cp.bl s) && decide (s.size ≤ 255)):=⟨_,rfl⟩
 rw [← hr] at HX0 HY0
 have HY:=hid HY0
 have HX:=hid HX0
 clear HK0 HX0 HN0 HY0 her hs hn hr
 have hse : s = ⟨#[]⟩ ∨ (¬ s = ⟨#[]⟩ ∧ s.toList.isEmpty = false):=by
  by_cases e2 : s = ⟨#[]⟩
  ·exact .inl e2
  ·refine .inr ⟨e2,?_⟩
   rw [ByteArray.toList_eq]
   cases hb : s.data.toList with
   | nil=>exact absurd (ba_ext hb) e2
   | cons=>rfl
 rcases of_decide_eq_true hk with rfl|rfl|rfl|rfl|ht
 case inr.inr.inr.inr =>
  have h1 : (t == 1) = false:=by rw [beq_eq_false_iff_ne];omega
  have h3 : (t == 3) = false:=by rw [beq_eq_false_iff_ne];omega
  have h5 : (t == 5) = false:=by rw [beq_eq_false_iff_ne];omega
  have h7 : decide (7 ≤ t) = true:=by simp;omega
  have h8 : decide (7 < t) = true:=by simp;omega
  have g1 : (t != 1) = true:=by rw [bne_iff_ne];omega
  have HT:=hid ht
  clear hk ht
  rcases hse with rfl|⟨q1,q2⟩
  all_goals (go_enter Tryz.func113,Tryz.ntmps113;go_wp2_with (first|(go_at_call 139;refine (HK.out _).mono ?_;rintro e w1 ⟨rfl,rfl⟩)|(go_at_call 141;refine (HX.out _).mono ?_;rintro e w1 ⟨rfl,rfl⟩;cases r));all_goals go_ret;all_goals refine ⟨?_,BLw⟩)
  all_goals have ht:=HT.out
  all_goals have k1 : ¬ t = 1:=by omega
  all_goals have k3 : ¬ t = 3:=by omega
  all_goals have k5 : ¬ t = 5:=by omega
  all_goals have k7 : 7 ≤ t:=by omega
  all_goals have k8 : 7 < t:=by omega
  all_goals clear ht h1 h3 h5 h7 h8 g1
  all_goals (first|exact (congrArg (fun z=>Ending.returned (.int .i64 z)) (HN.out (by unfold eOk;simp [*] <;> omega))).symm|exact (congrArg (fun z=>Ending.returned (.int .i64 z)) (HY.out (by unfold eOk;simp [*]))).symm|(have hh:=HY.out (by unfold eOk;simp [*]);rw [hh];rfl))
 case inl =>
  clear hk
  (go_enter Tryz.func113,Tryz.ntmps113;go_wp2_with (first|(go_at_call 139;refine (HK.out _).mono ?_;rintro e w1 ⟨rfl,rfl⟩)|(go_at_call 141;refine (HX.out _).mono ?_;rintro e w1 ⟨rfl,rfl⟩;cases r));all_goals go_ret;all_goals refine ⟨?_,BLw⟩)
  all_goals (first|exact (congrArg (fun z=>Ending.returned (.int .i64 z)) (HN.out (by unfold eOk;simp [*] <;> omega))).symm|exact (congrArg (fun z=>Ending.returned (.int .i64 z)) (HY.out (by unfold eOk;simp [*]))).symm|(have hh:=HY.out (by unfold eOk;simp [*]);rw [hh];rfl))
 case inr.inl =>
  clear hk
  obtain ⟨m,hm⟩ : ∃ m,m = IntKind.i32.wrap n:=⟨_,rfl⟩
  have h32 : wrap64 (wrap32 n) = m:=by rw [hm,IntKind.wrap_i32];unfold wrap64 wrap32;omega
  have HW:=hid (show (n = IntKind.i32.wrap n) ↔ (n == m) = true by rw [← hm];simp)
  clear hm
  cases q3 : (n == m)
  all_goals rcases hse with rfl|⟨q1,q2⟩
  all_goals (go_enter Tryz.func113,Tryz.ntmps113;go_wp2_with (first|(go_at_call 139;refine (HK.out _).mono ?_;rintro e w1 ⟨rfl,rfl⟩)|(go_at_call 141;refine (HX.out _).mono ?_;rintro e w1 ⟨rfl,rfl⟩;cases r));all_goals go_ret;all_goals refine ⟨?_,BLw⟩)
  all_goals have hww:=HW.out
  all_goals rw [q3] at hww
  all_goals clear q3 h32
  all_goals (first|exact (congrArg (fun z=>Ending.returned (.int .i64 z)) (HN.out (by unfold eOk;simp [*] <;> omega))).symm|exact (congrArg (fun z=>Ending.returned (.int .i64 z)) (HY.out (by unfold eOk;simp [*]))).symm|(have hh:=HY.out (by unfold eOk;simp [*]);rw [hh];rfl))
 all_goals clear hk
 all_goals rcases hse with rfl|⟨q1,q2⟩
 all_goals (go_enter Tryz.func113,Tryz.ntmps113;go_wp2_with (first|(go_at_call 139;refine (HK.out _).mono ?_;rintro e w1 ⟨rfl,rfl⟩)|(go_at_call 141;refine (HX.out _).mono ?_;rintro e w1 ⟨rfl,rfl⟩;cases r));all_goals go_ret;all_goals refine ⟨?_,BLw⟩)
 all_goals (first|exact (congrArg (fun z=>Ending.returned (.int .i64 z)) (HN.out (by unfold eOk;simp [*] <;> omega))).symm|exact (congrArg (fun z=>Ending.returned (.int .i64 z)) (HY.out (by unfold eOk;simp [*]))).symm|(have hh:=HY.out (by unfold eOk;simp [*]);rw [hh];rfl))
end Go.Proofs.YtnojgiflgmnjlaaGreatDoor.L3
namespace Go.Proofs.YtnojgiflgmnjlaaGreatDoor.L3
open Go.RowKit
theorem prev_next {l : List Cp.C} {k : Nat} {c : Cp.C} (h : l[k]? = some c) : prevB l (k + 1) = (c.t == 5):=by
 unfold prevB
 dsimp only
 rw [h]
set_option maxHeartbeats 4000000 in
theorem rcheck_any (l : List Cp.C) (v : Value) (w : World) (hv : Kit.IsS 5 w v l.length (l.flatMap cL)) (hs : ∀ c ∈ l,c.s.size ≤ 140737488355328 ∧ I6 c.n) :
  Calls Tryz.prog 57 #[v] w fun e w'=>∃ er,CkIs l er ∧ e = .returned (.int .i64 er) ∧ Below w.heap.size w w':=by
 have HV:=hid (fun W (h : Below w.heap.size w W)=>hv.below h (Nat.le_refl _))
 have HS:=hid hs
 have hlen:=hv.2.1
 obtain ⟨a,cap,rfl⟩:=hv.len
 clear hv hs
 by_cases hbig : 4096 < l.length
 ·have hd : decide (4096 < (l.length : Int)) = true:=by simp;omega
  have HC:=hid (show CkIs l 3 from .inl ⟨hbig,rfl⟩)
  clear hbig
  go_enter Tryz.func57,Tryz.ntmps57
  go_wp2
  go_ret
  exact ⟨3,HC.out,rfl,BLw⟩
 ·have hd : decide (4096 < (l.length : Int)) = false:=by simp;omega
  have hsm : l.length ≤ 4096:=by omega
  clear hbig
  have hw1 : IntKind.i64.wrap ((l.length : Int) - 1) = (l.length : Int) - 1:=IntWalk.i64_in _ (by omega)
  go_enter Tryz.func57,Tryz.ntmps57
  go_wp2
  go_loopw [3,4] (fun p i wr=>∃ k : Nat,k ≤ l.length ∧ i = .int .i64 k ∧ p = .bool (prevB l k) ∧ Hid (∀ j,j < k → errAt l j = 0) ∧ Below w.heap.size w wr) (fun _ i _=>l.length - (intOf i).toNat)
  case atStart=>exact ⟨0,by omega,rfl,rfl,fun j hj=>absurd hj (by omega),BLw⟩
  case round =>
   obtain ⟨k,hk,rfl,rfl,hz,hbl⟩:=hrel
   have hbz:=hbl.size
   by_cases hlt : k < l.length
   ·obtain ⟨c,hc⟩ : ∃ c,l[k]? = some c:=⟨l[k],List.getElem?_eq_getElem hlt⟩
    obtain ⟨b,o,cap',hv',hb,c0,c1,c2,c3,c4⟩:=c_at (HV.out wr hbl) hc
    obtain ⟨rfl,-,rfl⟩:=Value.slice.inj hv'
    have hki : (k : Int) < l.length:=by omega
    have hnx:=prev_next hc
    have hE : errAt l k = if prevB l k = true then (if c = Cp.C0 then 0 else 31) else (if c.t = 5 ∧ k = l.length - 1 then 31 else ceOut c):=by unfold errAt;rw [hc]
    have HCe:=hid (fun (er : Int) (h : errAt l k = er) (h0 : er ≠ 0)=>show CkIs l er from .inr ⟨hsm,.inr ⟨k,hlt,h,h0,hz.out⟩⟩)
    have HNx:=hid (fun (h : errAt l k = 0) j (hj : j < k + 1)=>show errAt l j = 0 by
      rcases Nat.lt_or_ge j k with h1|h1
      ·exact hz.out j h1
      ·rw [show j = k by omega,h])
    cases hp : prevB l k with
    | true =>
     rw [hp,if_pos rfl] at hE
     by_cases he : c = Cp.C0
     ·rw [if_pos he] at hE
      subst he
      have HN:=hid (HNx.out hE)
      have HP:=hid hnx
      unfold Cp.C0 at c0 c1 c2 c3 c4
      dsimp only at c0 c1 c2 c3 c4
      clear hc hE hnx hp hv'
      go_wp2
      go_roundw
      case rel=>exact ⟨k + 1,by omega,by go_num,by rw [HP.out];rfl,HN,BLw⟩
      case measure=>simp [intOf];omega
     ·rw [if_neg he] at hE
      have HC:=hid (HCe.out 31 hE (by decide))
      have hne:=c0_ne he
      obtain ⟨t,s,n,a,bb⟩:=c
      dsimp only at c0 c1 c2 c3 c4 hne
      clear hc he hE hnx hp hv'
      rcases hne with h|⟨rfl,h⟩|⟨rfl,rfl,h⟩|⟨rfl,rfl,rfl,h⟩|⟨rfl,rfl,rfl,rfl,h⟩
      all_goals go_wp2
      all_goals go_ret
      all_goals exact ⟨31,HC.out,rfl,BLw⟩
    | false =>
     rw [hp,if_neg (by simp)] at hE
     have HR:=hid (fun W=>rentry_any c W (HS.out c (List.mem_of_getElem? hc)).1 (HS.out c (List.mem_of_getElem? hc)).2)
     by_cases hlast : c.t = 5 ∧ k = l.length - 1
     ·rw [if_pos hlast] at hE
      have HC:=hid (HCe.out 31 hE (by decide))
      have hd5 : (c.t == 5) = true:=by simpa using hlast.1
      have hd6 : ((k : Int) == (l.length : Int) - 1) = true:=by rw [beq_iff_eq];omega
      clear hc hE hnx hp hv' hlast
      go_wp2
      go_ret
      exact ⟨31,HC.out,rfl,BLw⟩
     ·rw [if_neg hlast] at hE
      obtain ⟨er,her⟩ : ∃ er,er = ceOut c:=⟨_,rfl⟩
      rw [← her] at hE HR
      have hd6 : c.t = 5 → ((k : Int) == (l.length : Int) - 1) = false:=by intro h;rw [beq_eq_false_iff_ne];intro h2;exact hlast ⟨h,by omega⟩
      have HP:=hid hnx
      have hsp : (c.t == 5) = false ∨ ((c.t == 5) = true ∧ ((k : Int) == (l.length : Int) - 1) = false):=by
       by_cases h : c.t = 5
       ·exact .inr ⟨by simpa using h,hd6 h⟩
       ·exact .inl (by simpa using h)
      by_cases h0 : er = 0
      ·have HN:=hid (HNx.out (hE.trans h0))
       have hd7 : (er != 0) = false:=by simpa using h0
       unfold cC at HR
       clear hc hE hnx hp hv' hlast h0 her hd6
       rcases hsp with hd5|⟨hd5,hd6⟩
       all_goals go_wp2_with (go_at_call 113;refine (HR.out _).mono ?_;rintro e w1 ⟨rfl,hb1⟩;have k0:=hb1.cell (p:=⟨b,o + k * 5,none⟩) hb;rw [c0] at k0)
       all_goals go_roundw
       all_goals first
        | (case rel=>exact ⟨k + 1,by omega,by go_num,by rw [HP.out,hd5],HN,belows hbl hb1 hbz⟩)
        | (case measure=>simp [intOf];omega)
      ·have HC:=hid (HCe.out er hE h0)
       have hd7 : (er != 0) = true:=by simpa using h0
       unfold cC at HR
       clear hc hE hnx hp hv' hlast h0 her hd6
       rcases hsp with hd5|⟨hd5,hd6⟩
       all_goals go_wp2_with (go_at_call 113;refine (HR.out _).mono ?_;rintro e w1 ⟨rfl,hb1⟩)
       all_goals go_ret
       all_goals exact ⟨er,HC.out,rfl,belows hbl hb1 hbz⟩
   ·obtain rfl : k = l.length:=by omega
    have HC:=hid (show CkIs l 0 from .inr ⟨hsm,.inl ⟨rfl,hz.out⟩⟩)
    go_wp2
    go_ret
    exact ⟨0,HC.out,rfl,hbl⟩
end Go.Proofs.YtnojgiflgmnjlaaGreatDoor.L3
namespace Go.Proofs.YtnojgiflgmnjlaaGreatDoor.L3
open Go.RowKit
theorem bytesN_0 (z : Int) : bytesN z 0 = []:=rfl
theorem enc_text {t : Int} (s : ByteArray) (n a b : Int) (h : t = 1) : encE ⟨t,s,n,a,b⟩ = [t % 256] ++ bytesN s.size 2 ++ ((Cp.bl s).map fun b=>(b.toNat : Int)):=by
 subst h
 unfold encE
 simp [Cp.wd,bytesN_0]
theorem enc_num {t : Int} (n a b : Int) (k : Nat) (h : Cp.wd t = (0,k,0,0)) : encE ⟨t,⟨#[]⟩,n,a,b⟩ = [t % 256] ++ bytesN n k:=by
 unfold encE
 simp [h,bytesN_0,Cp.bl]
theorem enc_one {t : Int} (n a b : Int) (h : t = 7) : encE ⟨t,⟨#[]⟩,n,a,b⟩ = [t % 256] ++ bytesN a 2:=by
 subst h
 unfold encE
 simp [Cp.wd,bytesN_0,Cp.bl]
theorem enc_two {t : Int} (n a b : Int) (h : t = 9 ∨ t = 10 ∨ t = 12) : encE ⟨t,⟨#[]⟩,n,a,b⟩ = [t % 256] ++ bytesN a 2 ++ bytesN b 2:=by
 unfold encE
 rcases h with rfl|rfl|rfl <;> simp [Cp.wd,bytesN_0,Cp.bl]
structure PSt (w : World) (base : Nat) (v0 : Value) (C : Array Value) (W : World) (v : Value) (l : List Int) : Prop where
 own : OwnI W base v l
 gr : Kit.Grows w W v0 v
 bc : BX W w.heap.size C 56
 ne : ∀ k,v.ownBlock = some k → k ≠ w.heap.size
 le : base ≤ W.heap.size
theorem PSt.step {w : World} {base : Nat} {v0 : Value} {C : Array Value} {W W' : World} {v v' : Value} {l l' : List Int} (h : PSt w base v0 C W v l) (ho : OwnI W' base v' l') (g : Kit.Grows W W' v v') : PSt w base v0 C W' v' l':=by
 refine ⟨ho,h.gr.trans g,h.bc.grown g.grown ?_,?_,Nat.le_trans h.le g.size⟩
 ·intro e
  exact h.ne _ e rfl
 ·intro k e
  have h1:=h.bc.sz
  rcases g.blk with e2|⟨j,hj,e2⟩
  ·rw [e2] at e
   exact h.ne k e
  ·rw [e2] at e
   have:=Option.some.inj e
   omega
theorem PSt.drew {w : World} {base : Nat} {v0 : Value} {C : Array Value} {W : World} {v : Value} {l : List Int} (h : PSt w base v0 C W v l) : PSt w base v0 C W.drew v l :=
 ⟨World.ownsRow.drew h.own,⟨⟨h.gr.grown.os,h.gr.grown.tape,h.gr.grown.output,h.gr.grown.size,h.gr.grown.block⟩,h.gr.blk⟩,h.bc,h.ne,h.le⟩
theorem PSt.cells {w : World} {base : Nat} {v0 : Value} {c0 c1 c2 c3 c4 : Value} {W : World} {v : Value} {l : List Int} (h : PSt w base v0 #[c0,c1,c2,c3,c4] W v l) :
  W.cell? ⟨w.heap.size,0,none⟩ = some c0 ∧ W.cell? ⟨w.heap.size,1,none⟩ = some c1 ∧ W.cell? ⟨w.heap.size,2,none⟩ = some c2 ∧ W.cell? ⟨w.heap.size,3,none⟩ = some c3 ∧ W.cell? ⟨w.heap.size,4,none⟩ = some c4 :=
 ⟨h.bc.cell 0,h.bc.cell 1,h.bc.cell 2,h.bc.cell 3,h.bc.cell 4⟩
theorem PSt.first {w w2 : World} {base : Nat} {v v1 : Value} {l : List Int} {z : Int} {C : Array Value} (hb : base ≤ w.heap.size) (hlt : ∀ k,v.ownBlock = some k → k < w.heap.size) (ho : w2.ownsRow base 5 1 v1 (l.length + 1) (l.map (Value.int .u8) ++ [.int .u8 z])) (hg : ((w.alloc (.cells C 56)).alloc (.cells #[.int .u8 z] 5)).grownBy w2 v.ownBlock) (hk : v1.ownBlock = v.ownBlock ∨ v1.ownBlock = some (w.heap.size + 1 + 1)) : PSt w base v C w2 v1 (l ++ [z]):=by
 have B1 : Below w.heap.size w ((w.alloc (.cells C 56)).alloc (.cells #[.int .u8 z] 5)):=((Below.refl _ w).alloc (Nat.le_refl _) _).alloc (by simp) _
 have hzg:=hg.size
 simp only [World.size_alloc] at hzg
 have bc1 : BX ((w.alloc (.cells C 56)).alloc (.cells #[.int .u8 z] 5)) w.heap.size C 56:=(BX.new w C 56).below ((Below.refl (w.heap.size + 1) _).alloc (by simp) _) (by omega)
 refine ⟨OwnI.snoc ho,Kit.grows_append B1 hg (by simpa using hk),bc1.grown hg ?_,?_,by omega⟩
 ·intro e
  have:=hlt _ e
  omega
 ·intro k e
  rcases hk with h|h
  ·rw [h] at e
   have:=hlt _ e
   omega
  ·rw [h] at e
   have:=Option.some.inj e
   omega
theorem news_two (w : World) (o : Obj) (v : Value) (t : TypeId) : ∀ j u,[v][j]? = some u → ((w.alloc o).alloc (.cells #[v] t)).cell? ((⟨w.heap.size + 1,0,none⟩ : Addr).add j) = some u:=by
 have hn:=Kit.news_one (w.alloc o) v t
 rw [World.size_alloc] at hn
 exact hn
end Go.Proofs.YtnojgiflgmnjlaaGreatDoor.L3
namespace Go.Proofs.YtnojgiflgmnjlaaGreatDoor.L3
open Go.RowKit
attribute [local go_sem] Oper.semAt_some
def FiIs (l : List Cp.C) (c : Cp.C) (r : Nat) (b : Bool) : Prop:=(b = false ∧ r = 0 ∧ ∀ j,1 ≤ j → c.t ≠ 0 → l[j]? ≠ some c) ∨ (b = true ∧ 1 ≤ r ∧ c.t ≠ 0 ∧ l[r]? = some c ∧ ∀ j,1 ≤ j → j < r → l[j]? ≠ some c)
theorem FiIs.det {l : List Cp.C} {c : Cp.C} {r r' : Nat} {b b' : Bool} (h : FiIs l c r b) (k : FiIs l c r' b') : r = r' ∧ b = b':=by
 rcases h with ⟨rfl,rfl,h⟩|⟨rfl,h1,h2,h3,h⟩
 ·rcases k with ⟨rfl,rfl,k⟩|⟨rfl,k1,k2,k3,k⟩
  ·exact ⟨rfl,rfl⟩
  ·exact absurd k3 (h _ k1 k2)
 ·rcases k with ⟨rfl,rfl,k⟩|⟨rfl,k1,k2,k3,k⟩
  ·exact absurd h3 (k _ h1 h2)
  ·refine ⟨?_,rfl⟩
   rcases Nat.lt_trichotomy r r' with hlt|e|hlt
   ·exact absurd h3 (k r h1 hlt)
   ·exact e
   ·exact absurd k3 (h r' k1 hlt)
theorem told_cases (l : List Cp.C) (k : Nat) : told l (k + 1) = told l k ∨ ∃ x : Tx l,x.1.1 = k ∧ told l (k + 1) = told l k ++ [x]:=by
 cases h : l[k]? with
 | none =>
  refine .inl ?_
  show told l k ++ _ = _
  split
  ·rename_i d hd
   rw [h] at hd
   cases hd
  ·rw [List.append_nil]
 | some c =>
  by_cases hc : c.t = 0
  ·exact .inl (told_no h hc)
  ·exact .inr ⟨⟨(k,c),h,hc⟩,rfl,told_yes h hc⟩
theorem told_last {l : List Cp.C} : ∀ {k : Nat} {pre : List (Tx l)} {x : Tx l},told l k = pre ++ [x] → pre = told l x.1.1 ∧ x.1.1 < k
 | 0,pre,x,h=>by
  have:=congrArg List.length h
  simp [told] at this
 | k + 1,pre,x,h=>by
  rcases told_cases l k with e|⟨y,hy,e⟩
  ·rw [e] at h
   have:=told_last h
   exact ⟨this.1,by omega⟩
  ·rw [e] at h
   obtain ⟨h1,h2⟩:=List.append_inj' h rfl
   obtain rfl : y = x:=by simpa using h2
   rw [hy]
   exact ⟨h1.symm,by omega⟩
theorem told_mem {l : List Cp.C} {j : Nat} {c : Cp.C} (h : l[j]? = some c) (hc : c.t ≠ 0) : ∀ {k : Nat},j < k → (⟨(j,c),h,hc⟩ : Tx l) ∈ told l k
 | 0,hk=>absurd hk (by omega)
 | k + 1,hk=>by
  by_cases hj : j = k
  ·subst hj
   rw [told_yes h hc]
   simp
  ·rcases told_cases l k with e|⟨y,hy,e⟩
   ·rw [e];exact told_mem h hc (by omega)
   ·rw [e];exact List.mem_append_left _ (told_mem h hc (by omega))
theorem c_ne {x c : Cp.C} (h : x ≠ c) : (¬ x.t = c.t) ∨ (x.t = c.t ∧ (x.s.toList == c.s.toList) = false) ∨ (x.t = c.t ∧ x.s = c.s ∧ ¬ x.n = c.n) ∨ (x.t = c.t ∧ x.s = c.s ∧ x.n = c.n ∧ ¬ x.a = c.a) ∨ (x.t = c.t ∧ x.s = c.s ∧ x.n = c.n ∧ x.a = c.a ∧ ¬ x.b = c.b):=by
 obtain ⟨t,s,n,a,b⟩:=x
 obtain ⟨t',s',n',a',b'⟩:=c
 dsimp only
 by_cases e1 : t = t'
 ·by_cases e2 : s = s'
  ·by_cases e3 : n = n'
   ·by_cases e4 : a = a'
    ·by_cases e5 : b = b'
     ·exact absurd (by rw [e1,e2,e3,e4,e5]) h
     ·exact .inr (.inr (.inr (.inr ⟨e1,e2,e3,e4,e5⟩)))
    ·exact .inr (.inr (.inr (.inl ⟨e1,e2,e3,e4⟩)))
   ·exact .inr (.inr (.inl ⟨e1,e2,e3⟩))
  ·refine .inr (.inl ⟨e1,?_⟩)
   rw [beq_eq_false_iff_ne,ne_eq,ByteArray.toList_eq,ByteArray.toList_eq]
   intro e
   exact e2 (ba_ext e)
 ·exact .inl e1
def FiPost (l : List Cp.C) (c : Cp.C) (w : World) (e : Ending) (w' : World) : Prop:=∃ (r : Nat) (b : Bool),FiIs l c r b ∧ e = .returned (.tuple #[.int .i64 (r : Nat),.bool b]) ∧ Below w.heap.size w w'
set_option maxHeartbeats 4000000 in
theorem rfind_any (l : List Cp.C) (c : Cp.C) (v : Value) (w : World) (hv : Kit.IsS 5 w v l.length (l.flatMap cL)) :
  Calls Tryz.prog 98 #[v,.agg (cC c)] w (FiPost l c w):=by
 have HV:=hid (fun W (h : Below w.heap.size w W)=>hv.below h (Nat.le_refl _))
 obtain ⟨a,cap,hv2⟩:=hv.len
 subst hv2
 have hlen:=hv.2.1
 clear hv
 by_cases hct : c.t = 0
 ·have HF:=hid (show FiIs l c 0 false from .inl ⟨rfl,rfl,fun _ _ h=>absurd hct h⟩)
  obtain ⟨t,s,n,ca,cb⟩:=c
  dsimp only at hct
  subst hct
  unfold cC
  dsimp only
  go_enter Tryz.func98,Tryz.ntmps98
  go_wp2
  go_loopw [6] (fun i wr=>i = .int .i64 1 ∧ wr = w.alloc (.cells #[.int .i64 0,.string s,.int .i64 n,.int .i64 ca,.int .i64 cb] 56)) (fun i _=>0)
  case atStart=>exact ⟨rfl,rfl⟩
  case round =>
   obtain ⟨rfl,rfl⟩:=hrel
   by_cases h1 : (1 : Int) < l.length
   all_goals go_wp2
   all_goals go_ret2
   all_goals exact ⟨0,false,HF.out,rfl,BLw⟩
 ·have hzd : (c.t == 0) = false:=by simpa using hct
  have hzd2 : (c.t != 0) = true:=by simpa using hct
  have HC:=hid hct
  have HY:=hid (fun (k : Nat) (h1 : 1 ≤ k) (hk : l[k]? = some c) (hn : ∀ j,1 ≤ j → j < k → l[j]? ≠ some c)=>show FiIs l c k true from .inr ⟨rfl,h1,hct,hk,hn⟩)
  have HN:=hid (fun (hn : ∀ j,1 ≤ j → j < l.length → l[j]? ≠ some c)=>show FiIs l c 0 false from .inl ⟨rfl,rfl,fun j h1 _ h=>by
   rcases Nat.lt_or_ge j l.length with h2|h2
   ·exact hn j h1 h2 h
   ·rw [List.getElem?_eq_none h2] at h;cases h⟩)
  obtain ⟨cx,hcx⟩ : ∃ x,x = c:=⟨_,rfl⟩
  obtain ⟨t,s,n,ca,cb⟩:=c
  dsimp only at hzd hzd2
  unfold cC
  dsimp only
  clear hct
  go_enter Tryz.func98,Tryz.ntmps98
  go_wp2
  go_loopw [6] (fun i wr=>∃ k : Nat,1 ≤ k ∧ i = .int .i64 k ∧ Hid (∀ j,1 ≤ j → j < k → l[j]? ≠ some ⟨t,s,n,ca,cb⟩) ∧ BX wr w.heap.size #[.int .i64 t,.string s,.int .i64 n,.int .i64 ca,.int .i64 cb] 56 ∧ Below w.heap.size w wr) (fun i _=>l.length - (intOf i).toNat)
  case atStart=>exact ⟨1,by omega,rfl,fun j h1 h2=>by omega,BX.new w _ _,BLw⟩
  case round =>
   obtain ⟨k,hk,rfl,hn,hbx,hbl⟩:=hrel
   have hbz:=hbl.size
   have x0:=hbx.cell 0
   have x1:=hbx.cell 1
   have x2:=hbx.cell 2
   have x3:=hbx.cell 3
   have x4:=hbx.cell 4
   simp at x0 x1 x2 x3 x4
   by_cases hlt : k < l.length
   ·obtain ⟨y,hy⟩ : ∃ y,l[k]? = some y:=⟨l[k],List.getElem?_eq_getElem hlt⟩
    obtain ⟨b,o,cap',hv',hb,c0,c1,c2,c3,c4⟩:=c_at (HV.out wr hbl) hy
    obtain ⟨rfl,-,rfl⟩:=Value.slice.inj hv'
    have hki : (k : Int) < l.length:=by omega
    by_cases he : y = ⟨t,s,n,ca,cb⟩
    ·have HF:=hid (HY.out k hk (by rw [← he];exact hy) hn.out)
     subst he
     dsimp only at c0 c1 c2 c3 c4
     clear hy hv'
     go_wp2
     go_quiet (fail)
     go_wp2
     go_ret2
     exact ⟨k,true,HF.out,rfl,BLw⟩
    ·have HNx:=hid (fun j (h1 : 1 ≤ j) (hj : j < k + 1)=>show l[j]? ≠ some (⟨t,s,n,ca,cb⟩ : Cp.C) by
      rcases Nat.lt_or_ge j k with h2|h2
      ·exact hn.out j h1 h2
      ·rw [show j = k by omega,hy];intro e;exact he (Option.some.inj e))
     have hne:=c_ne he
     obtain ⟨t',s',n',a',b'⟩:=y
     dsimp only at c0 c1 c2 c3 c4 hne
     clear hy he hv' hcx
     rcases hne with h|⟨rfl,h⟩|⟨rfl,rfl,h⟩|⟨rfl,rfl,rfl,h⟩|⟨rfl,rfl,rfl,rfl,h⟩
     all_goals go_wp2
     all_goals go_quiet (fail)
     all_goals go_wp2
     all_goals go_roundw
     all_goals first
      | (case rel=>exact ⟨k + 1,by omega,by go_num,HNx,hbx,BLw⟩)
      | (case measure=>simp [intOf] <;> omega)
   ·have HF:=hid (HN.out fun j h1 h2=>hn.out j h1 (by omega))
    have hki : decide ((k : Int) < l.length) = false:=by simp;omega
    go_wp2
    go_ret2
    exact ⟨0,false,HF.out,rfl,BLw⟩
end Go.Proofs.YtnojgiflgmnjlaaGreatDoor.L3
namespace Go.Proofs.YtnojgiflgmnjlaaGreatDoor.L3
open Go.RowKit
attribute [local go_sem] Oper.semAt_some
theorem bx_own {β : Type} (B : Nat) (C : Array Value) (t : TypeId) : Own (fun (_ : β) W=>BX W B C t):=fun s X Y row hs hg hr =>
 (hg.block B hs.sz (fun e=>by obtain ⟨o,ho,hc⟩:=hr B e.symm;rw [show X.heap[B]? = _ from hs] at ho;cases ho;cases hc)).trans hs
def FiJ {l : List Cp.C} (c : Cp.C) (hi : Nat) (w : World) (pre : List (Tx l)) (W : World) : Prop :=
 BX W w.heap.size (cC c) 56 ∧ Boxed W (w.heap.size + 1) 3 (.int .i64 0) ∧ Boxed W (w.heap.size + 1 + 1) 4 (.bool false) ∧ Hid (∀ x ∈ pre,¬ (0 < x.1.1 ∧ x.1.2 = c)) ∧ Below w.heap.size w W ∧ hi ≤ W.heap.size
theorem FiJ.own {l : List Cp.C} {c : Cp.C} {hi n : Nat} {w : World} (hn : w.heap.size ≤ n) : OwnFrom n (FiJ (l:=l) c hi w):=by
 rintro pre A B row ⟨h0,h1,h2,h3,h4,h5⟩ hg hr
 exact ⟨bx_own _ _ _ () A B row h0 hg (fun r e=>(hr r e).2),boxed_own _ _ (fun _ : Unit=>.int .i64 0) () A B row h1 hg (fun r e=>(hr r e).2),boxed_own _ _ (fun _ : Unit=>.bool false) () A B row h2 hg (fun r e=>(hr r e).2),h3,h4.grown hg h4.size (fun k e=>by have:=(hr k e).1;omega),Nat.le_trans h5 hg.size⟩
def FiX {l : List Cp.C} (c : Cp.C) (w : World) (pre : List (Tx l)) (W : World) : Prop :=
 ∃ x p,Boxed W (w.heap.size + 1) 3 (.int .i64 (x.1.1 : Nat)) ∧ Boxed W (w.heap.size + 1 + 1) 4 (.bool true) ∧ pre = p ++ [x] ∧ 0 < x.1.1 ∧ x.1.2 = c ∧ (∀ y ∈ p,¬ (0 < y.1.1 ∧ y.1.2 = c)) ∧ Below w.heap.size w W
theorem FiX.own {l : List Cp.C} {c : Cp.C} {n : Nat} {w : World} (hn : w.heap.size ≤ n) : OwnFrom n (FiX (l:=l) c w):=by
 rintro pre A B row ⟨x,p,h1,h2,h3,h4,h5,h6,h7⟩ hg hr
 exact ⟨x,p,boxed_own _ _ (fun _ : Unit=>.int .i64 (x.1.1 : Nat)) () A B row h1 hg (fun r e=>(hr r e).2),boxed_own _ _ (fun _ : Unit=>.bool true) () A B row h2 hg (fun r e=>(hr r e).2),h3,h4,h5,h6,h7.grown hg h7.size (fun k e=>by have:=(hr k e).1;omega)⟩
theorem FiX.is {l : List Cp.C} {c : Cp.C} {w W : World} {k : Nat} (h : FiX c w (told l k) W) : ∃ r,FiIs l c r true ∧ Boxed W (w.heap.size + 1) 3 (.int .i64 (r : Nat)) ∧ Boxed W (w.heap.size + 1 + 1) 4 (.bool true) ∧ Below w.heap.size w W:=by
 obtain ⟨x,p,h1,h2,h3,h4,h5,h6,h7⟩:=h
 obtain ⟨hp,-⟩:=told_last h3
 refine ⟨x.1.1,.inr ⟨rfl,h4,h5 ▸ x.2.2,h5 ▸ x.2.1,fun j hj hlt hc=>?_⟩,h1,h2,h7⟩
 have hm:=told_mem hc (h5 ▸ x.2.2) hlt
 rw [← hp] at hm
 exact h6 _ hm ⟨hj,rfl⟩
theorem FiJ.no {l : List Cp.C} {c : Cp.C} (h : ∀ x ∈ told l l.length,¬ (0 < x.1.1 ∧ x.1.2 = c)) : FiIs l c 0 false:=by
 refine .inl ⟨rfl,rfl,fun j hj ht hc=>?_⟩
 have hlt : j < l.length:=by rw [List.getElem?_eq_some_iff] at hc;exact hc.1
 exact h _ (told_mem hc ht hlt) ⟨hj,rfl⟩
theorem fi_snoc {l : List Cp.C} {c : Cp.C} {pre : List (Tx l)} {x : Tx l} (h : ∀ y ∈ pre,¬ (0 < y.1.1 ∧ y.1.2 = c)) (hx : ¬ (0 < x.1.1 ∧ x.1.2 = c)) : ∀ y ∈ pre ++ [x],¬ (0 < y.1.1 ∧ y.1.2 = c):=by
 intro y hy
 rcases List.mem_append.1 hy with hy|hy
 ·exact h y hy
 ·obtain rfl : y = x:=by simpa using hy
  exact hx
set_option maxHeartbeats 4000000 in
theorem find_any (l : List Cp.C) (c : Cp.C) (v : Value) (w : World) (hv : Kit.IsS 5 w v l.length (l.flatMap cL)) (hn : l.length * 48 ≤ 140737488355328) :
  Calls Tryz.prog 93 #[v,.agg (cC c)] w (FiPost l c w):=by
 have HV:=hid (fun W (h : Below w.heap.size w W)=>hv.below h (Nat.le_refl _))
 obtain ⟨a,cap,hv2⟩:=hv.len
 subst hv2
 have hlen:=hv.2.1
 clear hv
 refine (callsIn_wide (n:=5)).1 ?_
 refine callsIn_of_wp_marks Tryz.func93 rfl trivial ?_ rfl
 simp only [Tryz.ntmps93,List.size_toArray,List.length_cons,List.length_nil,Nat.reduceAdd,Nat.reduceSub,Array.replicate_succ,Array.replicate_zero,List.push_toArray,List.append_toArray,List.nil_append,List.cons_append]
 obtain ⟨t,s,n,ca,cb⟩:=c
 unfold cC
 dsimp only
 gi_wp2_with (refine ⟨trivial,?_⟩;gi_at_call 87;refine (callsIn_wide.2 (all_any l _ _ (HV.out _ BLw) hn)).mono ?_;rintro e w3 ⟨v3,rfl,hX,hb3,hz3⟩)
 obtain ⟨C,hC⟩ : ∃ C : Array Value,C = #[.int .i64 t,.string s,.int .i64 n,.int .i64 ca,.int .i64 cb]:=⟨_,rfl⟩
 have hCc : cC ⟨t,s,n,ca,cb⟩ = C:=hC.symm
 rw [← hC] at hX hb3 hz3
 have hbA : Below (w.heap.size + 1) (w.alloc (.cells C 56)) w3:=belows (((Below.refl (w.heap.size + 1) (w.alloc (.cells C 56))).alloc (by simp) _).alloc (by simp) _) hb3 (by simp only [World.size_alloc];omega)
 have bc : BX w3 w.heap.size C 56:=(BX.new w C 56).below hbA (by omega)
 have i1 : Boxed w3 (w.heap.size + 1) 3 (.int .i64 0):=(hb3.block (w.heap.size + 1) (by simp only [World.size_alloc];omega)).trans (by have:=(Boxed.new (w.alloc (.cells C 56)) 3 (.int .i64 0)).alloc (.cells #[.bool false] 4);rw [World.size_alloc] at this;exact this)
 have i2 : Boxed w3 (w.heap.size + 1 + 1) 4 (.bool false):=(hb3.block (w.heap.size + 1 + 1) (by simp only [World.size_alloc];omega)).trans (by have:=Boxed.new ((w.alloc (.cells C 56)).alloc (.cells #[.int .i64 0] 3)) 4 (.bool false);rw [World.size_alloc,World.size_alloc] at this;exact this)
 simp only [World.size_alloc] at hz3 hX
 have hB3 : Below w.heap.size w w3:=belows ((Below.refl _ w).alloc (Nat.le_refl _) (.cells C 56)) (by rw [World.size_alloc];exact hbA) (by rw [World.size_alloc];omega)
 have hkX : Hid (∀ X,Kp (w.heap.size + 1 + 1 + 1) w3.heap.size w3 X → Kit.IsS 5 X v3 l.length (l.flatMap cL) ∧ X.cell? ⟨w.heap.size + 1 + 1 + 1,0,none⟩ = some v3):=hX
 have hB3z:=hB3.size
 clear hX hb3 hbA
 refine wpIn_rangeFunc_ownH rfl (by omega) (gf:=143) (lb:=#[.pointer (some ⟨w.heap.size + 1 + 1 + 1,0,none⟩)]) rfl trivial (enters_of Tryz.func143 (by kernel_rfl) rfl)
  (all1_stops l v3 (w.heap.size + 1 + 1 + 1) (w.heap.size + 1 + 1 + 1) (5 - 1) w3 (by omega) hkX.out) (fun h k=>Kp.trans h k) (Kp.putObj (Nat.le_refl _)) (Below.refl _ _) (fun _=>rfl)
  (FiJ ⟨t,s,n,ca,cb⟩ w3.heap.size w) (fun c' pre W=>c' = .ret ∧ FiX ⟨t,s,n,ca,cb⟩ w pre W) (FiJ.own hB3.size) (fun c' pre A B row h hg hr=>⟨h.1,FiX.own hB3.size pre A B row h.2 hg hr⟩)
  ⟨hCc ▸ bc,i1,i2,hid (fun x hx=>by cases hx),hB3,Nat.le_refl _⟩
  (fun x a' W=>∃ Bx,w3.heap.size ≤ Bx ∧ BX W Bx (cC x.1.2) 56 ∧ a' = { tmps:=#[.slice a l.length cap,.agg #[.int .i64 t,.string s,.int .i64 n,.int .i64 ca,.int .i64 cb],undef,.pointer (some ⟨w.heap.size,0,none⟩),.pointer (some ⟨w.heap.size + 1,0,none⟩),.pointer (some ⟨w.heap.size + 1 + 1,0,none⟩),.int .i64 (x.1.1 : Int),.pointer (some ⟨Bx,0,none⟩),.slice a l.length cap,.func (.func 143) #[] #[.pointer (some ⟨w.heap.size + 1 + 1 + 1,0,none⟩)],.int .i64 (x.1.1 : Int),.agg (cC x.1.2),undef,undef,undef,undef,undef,undef,undef,undef],defers:=[] })
  (fun x a'=>Own.from (fun s A B row hs hg hr=>by
   obtain ⟨Bx,h1,h2,h3⟩:=hs
   exact ⟨Bx,h1,bx_own _ _ _ s A B row h2 hg hr,h3⟩) _) ?assign ?body ?done ?stop
 case assign =>
  rintro D pre ⟨⟨k,xt,xs,xn,xa,xb⟩,hx⟩ W K hI hK
  unfold entE cC
  gi_wp2
  exact hK _ _ ((KeepsOthers.alloc _ _).from _) ((Kp.refl _ _ W).below ((Below.refl W.heap.size W).alloc (Nat.le_refl _) _) (by obtain ⟨-,-,-,-,-,h⟩:=hI;exact h)) ((FiJ.own hB3.size).alloc _ hI) ⟨W.heap.size,(by obtain ⟨-,-,-,-,-,h⟩:=hI;exact h),BX.new W _ _,rfl⟩
 case body =>
  rintro D pre ⟨⟨k,xt,xs,xn,xa,xb⟩,hx⟩ a' W hl ⟨r,hr⟩ ⟨bC,i1,i2,hp,hB,hh⟩ ⟨Bx,hBx,bX,rfl⟩ hlt
  have x0:=bX.cell 0
  have x1:=bX.cell 1
  have x2:=bX.cell 2
  have x3:=bX.cell 3
  have x4:=bX.cell 4
  rw [hCc,hC] at bC
  have c0:=bC.cell 0
  have c1:=bC.cell 1
  have c2:=bC.cell 2
  have c3:=bC.cell 3
  have c4:=bC.cell 4
  have b1:=i1.cell
  have b2:=i2.cell
  have f1:=i1.frozen
  have f2:=i2.frozen
  unfold cC at x0 x1 x2 x3 x4 ⊢
  simp at x0 x1 x2 x3 x4 c0 c1 c2 c3 c4
  dsimp only
  have HS:=hid (fun h=>fi_snoc (c:=⟨t,s,n,ca,cb⟩) (x:=⟨(k,⟨xt,xs,xn,xa,xb⟩),hx⟩) hp.out h)
  have HbC:=hid bC
  have bXs:=bX.sz
  clear hr bC bX
  by_cases hk0 : 0 < k
  ·have hd : decide ((0 : Int) < k) = true:=by simp;omega
   by_cases hxc : (⟨xt,xs,xn,xa,xb⟩ : Cp.C) = ⟨t,s,n,ca,cb⟩
   ·obtain ⟨rfl,rfl,rfl,rfl,rfl⟩:=Cp.C.mk.inj hxc
    clear hxc
    gi_wp2
    exact ⟨((KeepsOthers.setCell _ _ _).trans (KeepsOthers.setCell _ _ _)).from _,rfl,⟨(k,⟨xt,xs,xn,xa,xb⟩),hx⟩,pre,(i1.set _).other (by omega) _,(i2.other (by omega) _).set _,rfl,hk0,rfl,hp.out,BLw⟩
   ·have HN:=hid (HS.out (fun e=>hxc e.2))
    have hne:=c_ne hxc
    dsimp only at hne
    clear hxc
    rcases hne with h|⟨rfl,h⟩|⟨rfl,rfl,h⟩|⟨rfl,rfl,rfl,h⟩|⟨rfl,rfl,rfl,rfl,h⟩
    all_goals gi_wp2
    all_goals exact ⟨(KeepsOthers.refl _).from _,Kp.refl _ _ _,HbC.out,i1,i2,HN,hB,hh⟩
  ·have HN:=hid (HS.out (fun e=>hk0 e.1))
   have hd : decide ((0 : Int) < k) = false:=by simp;omega
   gi_wp2
   exact ⟨(KeepsOthers.refl _).from _,Kp.refl _ _ _,HbC.out,i1,i2,HN,hB,hh⟩
 case done =>
  rintro D ys W hD rfl ⟨bC,i1,i2,hp,hB,hh⟩ hK
  have HF:=hid (FiJ.no hp.out)
  have b1:=i1.cell
  have b2:=i2.cell
  have f1:=i1.frozen
  have f2:=i2.frozen
  gi_wp2
  have hK':=((KeepsOthers.setCell W ⟨w.heap.size + 1,0,none⟩ (.int .i64 0)).trans (KeepsOthers.setCell _ ⟨w.heap.size + 1 + 1,0,none⟩ (.bool false))).same D _ hK rfl
  refine ⟨by simp,.inl ⟨_,_,rfl,run_takeDeferred hK',?_⟩⟩
  have j1 : Boxed ((W.setCell ⟨w.heap.size + 1,0,none⟩ (.int .i64 0)).setCell ⟨w.heap.size + 1 + 1,0,none⟩ (.bool false)) (w.heap.size + 1) 3 (.int .i64 0):=(i1.set _).other (by omega) _
  have j2 : Boxed ((W.setCell ⟨w.heap.size + 1,0,none⟩ (.int .i64 0)).setCell ⟨w.heap.size + 1 + 1,0,none⟩ (.bool false)) (w.heap.size + 1 + 1) 4 (.bool false):=(i2.other (by omega) _).set _
  have hc1:=cell_kept j1.cell (grownBy_putObj' _ D (.deferred none)) (fun r e=>by cases e;exact ⟨_,hK',rfl⟩)
  have hc2:=cell_kept j2.cell (grownBy_putObj' _ D (.deferred none)) (fun r e=>by cases e;exact ⟨_,hK',rfl⟩)
  have hBB : Below w.heap.size w ((W.setCell ⟨w.heap.size + 1,0,none⟩ (.int .i64 0)).setCell ⟨w.heap.size + 1 + 1,0,none⟩ (.bool false)):=BLw
  refine ⟨.tuple #[.int .i64 0,.bool false],?_,0,false,HF.out,rfl,hBB.trans (belowK_b (w:=w) (Nat.le_refl _) _ D _ _ (by omega) hK' rfl rfl)⟩
  simp [results,Tryz.f93,go_sem,hc1,hc2]
 case stop =>
  rintro D c' pre W hD ⟨k,hk,rfl⟩ ⟨rfl,hX⟩ hK
  obtain ⟨r,hF,i1,i2,hB⟩:=hX.is
  have HF:=hid hF
  clear hF hX
  gi_wp2
  refine ⟨by simp,.inl ⟨_,_,rfl,run_takeDeferred hK,?_⟩⟩
  have hc1:=cell_kept i1.cell (grownBy_putObj' _ D (.deferred none)) (fun r e=>by cases e;exact ⟨_,hK,rfl⟩)
  have hc2:=cell_kept i2.cell (grownBy_putObj' _ D (.deferred none)) (fun r e=>by cases e;exact ⟨_,hK,rfl⟩)
  refine ⟨.tuple #[.int .i64 r,.bool true],?_,r,true,HF.out,rfl,hB.trans (belowK_b (w:=w) (Nat.le_refl _) _ D _ _ (by omega) hK rfl rfl)⟩
  simp [results,Tryz.f93,go_sem,hc1,hc2]
end Go.Proofs.YtnojgiflgmnjlaaGreatDoor.L3
namespace Go.Proofs.YtnojgiflgmnjlaaGreatDoor.L3
open Go.RowKit
def hdP (l : List Cp.C) : List Cp.C:=if l.length = 0 then l ++ [Cp.C0] else l
def AdIs (l : List Cp.C) (c : Cp.C) (m : List Cp.C) (i : Nat) (er : Int) : Prop :=
 (CkIs l er ∧ er ≠ 0 ∧ m = [] ∧ i = 0) ∨ (CkIs l 0 ∧ ((ceOut c = er ∧ er ≠ 0 ∧ m = [] ∧ i = 0) ∨ (ceOut c = 0 ∧ ((FiIs l c i true ∧ er = 0 ∧ m = l) ∨ (FiIs l c 0 false ∧ ((4096 < (appE (hdP l) c).length ∧ er = 3 ∧ m = [] ∧ i = 0) ∨ ((appE (hdP l) c).length ≤ 4096 ∧ er = 0 ∧ m = appE (hdP l) c ∧ i = (hdP l).length)))))))
theorem AdIs.det {l : List Cp.C} {c : Cp.C} {m m' : List Cp.C} {i i' : Nat} {er er' : Int} (h : AdIs l c m i er) (k : AdIs l c m' i' er') : m = m' ∧ i = i' ∧ er = er':=by
 rcases h with ⟨h1,h2,rfl,rfl⟩|⟨h1,h⟩ <;> rcases k with ⟨k1,k2,rfl,rfl⟩|⟨k1,k⟩
 ·exact ⟨rfl,rfl,h1.det k1⟩
 ·exact absurd (h1.det k1) h2
 ·exact absurd (k1.det h1) k2
 ·rcases h with ⟨h2,h3,rfl,rfl⟩|⟨h2,h⟩ <;> rcases k with ⟨k2,k3,rfl,rfl⟩|⟨k2,k⟩
  ·exact ⟨rfl,rfl,h2.symm.trans k2⟩
  ·exact absurd (h2.symm.trans k2) h3
  ·exact absurd (k2.symm.trans h2) k3
  ·rcases h with ⟨h3,rfl,rfl⟩|⟨h3,h⟩ <;> rcases k with ⟨k3,rfl,rfl⟩|⟨k3,k⟩
   ·exact ⟨rfl,(h3.det k3).1,rfl⟩
   ·cases (h3.det k3).2
   ·cases (h3.det k3).2
   ·rcases h with ⟨h4,rfl,rfl,rfl⟩|⟨h4,rfl,rfl,rfl⟩ <;> rcases k with ⟨k4,rfl,rfl,rfl⟩|⟨k4,rfl,rfl,rfl⟩
    ·exact ⟨rfl,rfl,rfl⟩
    ·omega
    ·omega
    ·exact ⟨rfl,rfl,rfl⟩
def AdPost (l : List Cp.C) (c : Cp.C) (w : World) (e : Ending) (w' : World) : Prop :=
 ∃ (m : List Cp.C) (i : Nat) (er : Int) (v : Value),AdIs l c m i er ∧ e = .returned (.tuple #[v,.int .i64 (i : Nat),.int .i64 er]) ∧ OwnC w' w.heap.size v m ∧ Below w.heap.size w w'
theorem ownC_mono {w : World} {b b' : Nat} {v : Value} {l : List Cp.C} (h : OwnC w b v l) (hb : b' ≤ b) : OwnC w b' v l:=by
 refine ⟨h.1,?_⟩
 rcases h.2 with h|⟨g,cap,cur,hv,hg,k⟩
 ·exact .inl h
 ·exact .inr ⟨g,cap,cur,hv,Nat.le_trans hb hg,k⟩
theorem AdPost.no {l : List Cp.C} {c : Cp.C} {w w' : World} {er : Int} (h : AdIs l c [] 0 er) (hb : Below w.heap.size w w') : AdPost l c w (.returned (.tuple #[.slice none 0 0,.int .i64 0,.int .i64 er])) w' :=
 ⟨[],0,er,_,h,rfl,nilC _ _,hb⟩
set_option maxHeartbeats 4000000 in
theorem add_any (l : List Cp.C) (c : Cp.C) (v : Value) (w : World) (ht : Tabs w) (hv : Kit.IsS 5 w v l.length (l.flatMap cL)) (hs : ∀ x ∈ l,x.s.size ≤ 140737488355328) (hcs : c.s.size ≤ 140737488355328) (hn : l.length * 48 ≤ 140737488355328) :
  Calls Tryz.prog 163 #[v,.agg (cC c)] w (AdPost l c w):=by
 have hs0:=ht.size
 have HT:=hid (fun W (h : Below w.heap.size w W)=>ht.below h ht.size)
 have HV:=hid (fun W (h : Below w.heap.size w W)=>hv.below h (Nat.le_refl _))
 have HCk:=hid (fun W (h : Below w.heap.size w W)=>check_any l v W (HT.out W h) (HV.out W h) hs)
 have HCe0:=fun W (h : Below w.heap.size w W)=>checkEntry_any c W (HT.out W h) hcs
 have HFi:=hid (fun W (h : Below w.heap.size w W)=>find_any l c v W (HV.out W h) hn)
 have HCl:=hid (fun W (h : Below w.heap.size w W)=>cclone_any l v W (HV.out W h) hn)
 obtain ⟨a,cap,hv2⟩:=hv.len
 subst hv2
 have hlen:=hv.2.1
 clear hv ht hs
 obtain ⟨C,hC⟩ : ∃ C,C = cC c:=⟨_,rfl⟩
 by_cases h0 : CkIs l 0
 case neg =>
  have H0:=hid h0
  unfold cC
  clear h0 hC
  go_enter Tryz.func163,Tryz.ntmps163
  go_wp2_with (go_at_call 85;refine (HCk.out _ BLw).mono ?_;rintro e w1 ⟨er,hck,rfl,hb1⟩;have hne : (er != 0) = true:=(by (simp;rintro rfl;exact H0.out hck));have HK:=hid hck;clear hck)
  exact bodyPost_ret (v:=.tuple #[.slice none 0 0,.int .i64 0,.int .i64 er]) (by simp [results,Tryz.results163,go_sem]) rfl (AdPost.no (.inl ⟨HK.out,fun e=>H0.out (e ▸ HK.out),rfl,rfl⟩) (belows (B:=w.heap.size) (a:=w) ((Below.refl _ w).alloc (Nat.le_refl _) _) hb1 (by simp)))
 case pos =>
 have H0:=hid h0
 clear h0
 by_cases hce : ceOut c = 0
 case neg =>
  obtain ⟨ec,hec⟩ : ∃ ec,ec = ceOut c:=⟨_,rfl⟩
  rw [← hec] at HCe0 hce
  have HCe:=hid HCe0
  have HA:=hid (show AdIs l c [] 0 ec from .inr ⟨H0.out,.inl ⟨hec.symm,hce,rfl,rfl⟩⟩)
  have hne2 : (ec != 0) = true:=by simpa using hce
  unfold cC at HCe ⊢
  clear hC HCe0 hce hec
  go_enter Tryz.func163,Tryz.ntmps163
  go_wp2_with (first
   | (go_at_call 85;refine (HCk.out _ BLw).mono ?_;rintro e w1 ⟨er,hck,rfl,hb1⟩;obtain rfl:=CkIs.det hck H0.out;clear hck;have B1:=belows (B:=w.heap.size) (a:=w) ((Below.refl _ w).alloc (Nat.le_refl _) _) hb1 (by simp);have bx1:=(BX.new w #[.int .i64 c.t,.string c.s,.int .i64 c.n,.int .i64 c.a,.int .i64 c.b] 56).below hb1 (by simp);have c0:=bx1.cell 0;have c1:=bx1.cell 1;have c2:=bx1.cell 2;have c3:=bx1.cell 3;have c4:=bx1.cell 4;simp at c0 c1 c2 c3 c4)
   | (go_at_call 170;refine (HCe.out _ B1).mono ?_;rintro e w2 ⟨rfl,hb2⟩;have B2:=belows B1 hb2 B1.size;have bx2:=bx1.below hb2 bx1.sz;clear hb2))
  exact bodyPost_ret (v:=.tuple #[.slice none 0 0,.int .i64 0,.int .i64 ec]) (by simp [results,Tryz.results163,go_sem]) rfl (AdPost.no HA.out B2)
 case pos =>
 rw [hce] at HCe0
 have HCe:=hid HCe0
 have hl4 : l.length ≤ 4096:=(ck_size H0.out).1
 have HA1:=hid (fun r (h : FiIs l c r true)=>show AdIs l c l r 0 from .inr ⟨H0.out,.inr ⟨hce,.inl ⟨h,rfl,rfl⟩⟩⟩)
 have HA2:=hid (fun (h : FiIs l c 0 false) (h2 : 4096 < (appE (hdP l) c).length)=>show AdIs l c [] 0 3 from .inr ⟨H0.out,.inr ⟨hce,.inr ⟨h,.inl ⟨h2,rfl,rfl,rfl⟩⟩⟩⟩)
 have HA3:=hid (fun (h : FiIs l c 0 false) (h2 : (appE (hdP l) c).length ≤ 4096)=>show AdIs l c (appE (hdP l) c) (hdP l).length 0 from .inr ⟨H0.out,.inr ⟨hce,.inr ⟨h,.inr ⟨h2,rfl,rfl,rfl⟩⟩⟩⟩)
 obtain ⟨i0,hi,hz0,hz1,hz2⟩:=info_parts infoC
 obtain ⟨m,hm⟩ : ∃ m,m = hdP l:=⟨_,rfl⟩
 have hml : m.length ≤ 4097:=by
  rw [hm]
  unfold hdP
  split
  ·rw [List.length_append];simp only [List.length_cons,List.length_nil];omega
  ·omega
 have HAp0:=fun (base : Nat) (u : Value) (W : World) (ho : OwnC W base u m) (hb : base ≤ W.heap.size)=>appendEntry_any base m u c W ho hb (by omega)
 obtain ⟨M,hM⟩ : ∃ M,M = appE m c:=⟨_,rfl⟩
 rw [← hm,← hM] at HA2 HA3
 rw [← hM] at HAp0
 have HAp:=hid HAp0
 have HFF : ∀ r b,FiIs l c r b → b = false → r = 0:=fun r b h e=>by
  rcases h with ⟨-,h,-⟩|⟨h,-⟩
  ·exact h
  ·rw [e] at h;cases h
 unfold cC at HCe HFi HAp ⊢
 clear HCe0 hce hC HAp0 hM
 by_cases hl0 : l.length = 0
 ·have hd0 : ((l.length : Int) == 0) = true:=by rw [beq_iff_eq];omega
  have hm2 : m = l ++ [Cp.C0]:=by rw [hm];unfold hdP;rw [if_pos hl0]
  have HM2:=hid hm2
  clear hm hm2 hl0
  by_cases hbig : 4096 < M.length
  ·have hdb : decide (4096 < (M.length : Int)) = true:=by simp;omega
   go_enter Tryz.func163,Tryz.ntmps163
   go_wp2_with (first|(go_at_call 85;refine (HCk.out _ BLw).mono ?_;rintro e w1 ⟨er,hck,rfl,hb1⟩;obtain rfl:=CkIs.det hck H0.out;clear hck;have B1:=belows (B:=w.heap.size) (a:=w) ((Below.refl _ w).alloc (Nat.le_refl _) _) hb1 (by simp);have bx1:=(BX.new w #[.int .i64 c.t,.string c.s,.int .i64 c.n,.int .i64 c.a,.int .i64 c.b] 56).below hb1 (by simp);have c0:=bx1.cell 0;have c1:=bx1.cell 1;have c2:=bx1.cell 2;have c3:=bx1.cell 3;have c4:=bx1.cell 4;simp at c0 c1 c2 c3 c4)|(go_at_call 170;refine (HCe.out _ B1).mono ?_;rintro e w2 ⟨rfl,hb2⟩;have B2:=belows B1 hb2 B1.size;have bx2:=bx1.below hb2 bx1.sz;clear hb2)|(go_at_call 76;refine (HCl.out _ B2).mono ?_;rintro e w4 ⟨v4,rfl,o4,hb4⟩;obtain ⟨a4,cap4,rfl⟩:=own_form o4;have B4:=belows B2 hb4 B2.size;have bx4:=bx2.below hb4 bx2.sz;have hw2:=B2.size;have hs2:=bx2.sz;have d0:=bx4.cell 0;have d1:=bx4.cell 1;have d2:=bx4.cell 2;have d3:=bx4.cell 3;have d4:=bx4.cell 4;simp at d0 d1 d2 d3 d4;have O4:=hid o4;have hz4:=hb4.size;clear o4 hb4)|(go_at_call 93;refine (HFi.out _ B4).mono ?_;rintro e w5 ⟨r,b,hF,rfl,hb5⟩;have B5:=belows B4 hb5 B4.size;have bx5:=bx4.below hb5 bx4.sz;have O5:=hid (Kit.owns_below O4.out hb5 (Nat.le_refl _));have hz5:=hb5.size;have e0:=bx5.cell 0;have e1:=bx5.cell 1;have e2:=bx5.cell 2;have e3:=bx5.cell 3;have e4:=bx5.cell 4;simp at e0 e1 e2 e3 e4;clear hb5;have hr0:=HFF r b hF;have HF:=hid hF;clear hF;cases b;(obtain rfl:=hr0 rfl;clear hr0))|(at_builtin;refine wpList_append_own_at _ rfl (.tmp 37) (.tmp 39) 23 rfl w2.heap.size 56 i0 _ 5 48 Tryz.underlying23 hi hz0 hz1 hz2 rfl (by decide) _ _ _ rfl (World.ownsRow.alloc O5.out _) ⟨w5.heap.size,0,none⟩ 1 1 (cL Cp.C0) rfl rfl (news_c w5 Cp.C0) (ones_c _) (by unfold maxLen;omega) (by omega) (by simp only [World.size_alloc];omega) ?_;intro v6 w6 o6' hg6 _ hk6;have o6:=OwnC.snoc o6';rw [← HM2.out] at o6;have hg6s:=hg6.size;simp only [World.size_alloc] at hg6s;have B6:=(B5.alloc B5.size (.cells #[.int .i64 0,.string ⟨#[]⟩,.int .i64 0,.int .i64 0,.int .i64 0] 56)).grown hg6 (by simp only [World.size_alloc];omega) (fun k e=>by (have:=Kit.own_base O5.out k e;omega));have bx6:=(bx5.below ((Below.refl w5.heap.size w5).alloc (Nat.le_refl _) (.cells #[.int .i64 0,.string ⟨#[]⟩,.int .i64 0,.int .i64 0,.int .i64 0] 56)) bx5.sz).grown hg6 (fun e=>by (have:=Kit.own_base O5.out _ e;omega));have g0:=bx6.cell 0;have g1:=bx6.cell 1;have g2:=bx6.cell 2;have g3:=bx6.cell 3;have g4:=bx6.cell 4;simp at g0 g1 g2 g3 g4;obtain ⟨a6,cap6,rfl⟩:=own_form o6;have O6:=hid o6;clear o6 o6' hg6 hk6)|(go_at_call 187;refine (HAp.out _ _ _ O6.out (by omega)).mono ?_;rintro e w7 ⟨v7,rfl,o7,G7⟩;obtain ⟨a7,cap7,rfl⟩:=own_form o7;have B7:=G7.to_below B6 B6.size (fun k e=>by (have:=Kit.own_base O6.out k e;omega));have O7:=hid o7;clear o7))
   ·(exact bodyPost_ret (v:=.tuple #[.slice none 0 0,.int .i64 0,.int .i64 3]) (by simp [results,Tryz.results163,go_sem]) rfl (AdPost.no (HA2.out HF.out hbig) B7))
   ·(exact bodyPost_ret (v:=.tuple #[.slice a4 l.length cap4,.int .i64 r,.int .i64 0]) (by simp [results,Tryz.results163,go_sem]) rfl ⟨_,_,_,_,HA1.out r HF.out,rfl,ownC_mono O5.out (by omega),B5⟩)
  ·have hdb : decide (4096 < (M.length : Int)) = false:=by simp;omega
   go_enter Tryz.func163,Tryz.ntmps163
   go_wp2_with (first|(go_at_call 85;refine (HCk.out _ BLw).mono ?_;rintro e w1 ⟨er,hck,rfl,hb1⟩;obtain rfl:=CkIs.det hck H0.out;clear hck;have B1:=belows (B:=w.heap.size) (a:=w) ((Below.refl _ w).alloc (Nat.le_refl _) _) hb1 (by simp);have bx1:=(BX.new w #[.int .i64 c.t,.string c.s,.int .i64 c.n,.int .i64 c.a,.int .i64 c.b] 56).below hb1 (by simp);have c0:=bx1.cell 0;have c1:=bx1.cell 1;have c2:=bx1.cell 2;have c3:=bx1.cell 3;have c4:=bx1.cell 4;simp at c0 c1 c2 c3 c4)|(go_at_call 170;refine (HCe.out _ B1).mono ?_;rintro e w2 ⟨rfl,hb2⟩;have B2:=belows B1 hb2 B1.size;have bx2:=bx1.below hb2 bx1.sz;clear hb2)|(go_at_call 76;refine (HCl.out _ B2).mono ?_;rintro e w4 ⟨v4,rfl,o4,hb4⟩;obtain ⟨a4,cap4,rfl⟩:=own_form o4;have B4:=belows B2 hb4 B2.size;have bx4:=bx2.below hb4 bx2.sz;have hw2:=B2.size;have hs2:=bx2.sz;have d0:=bx4.cell 0;have d1:=bx4.cell 1;have d2:=bx4.cell 2;have d3:=bx4.cell 3;have d4:=bx4.cell 4;simp at d0 d1 d2 d3 d4;have O4:=hid o4;have hz4:=hb4.size;clear o4 hb4)|(go_at_call 93;refine (HFi.out _ B4).mono ?_;rintro e w5 ⟨r,b,hF,rfl,hb5⟩;have B5:=belows B4 hb5 B4.size;have bx5:=bx4.below hb5 bx4.sz;have O5:=hid (Kit.owns_below O4.out hb5 (Nat.le_refl _));have hz5:=hb5.size;have e0:=bx5.cell 0;have e1:=bx5.cell 1;have e2:=bx5.cell 2;have e3:=bx5.cell 3;have e4:=bx5.cell 4;simp at e0 e1 e2 e3 e4;clear hb5;have hr0:=HFF r b hF;have HF:=hid hF;clear hF;cases b;(obtain rfl:=hr0 rfl;clear hr0))|(at_builtin;refine wpList_append_own_at _ rfl (.tmp 37) (.tmp 39) 23 rfl w2.heap.size 56 i0 _ 5 48 Tryz.underlying23 hi hz0 hz1 hz2 rfl (by decide) _ _ _ rfl (World.ownsRow.alloc O5.out _) ⟨w5.heap.size,0,none⟩ 1 1 (cL Cp.C0) rfl rfl (news_c w5 Cp.C0) (ones_c _) (by unfold maxLen;omega) (by omega) (by simp only [World.size_alloc];omega) ?_;intro v6 w6 o6' hg6 _ hk6;have o6:=OwnC.snoc o6';rw [← HM2.out] at o6;have hg6s:=hg6.size;simp only [World.size_alloc] at hg6s;have B6:=(B5.alloc B5.size (.cells #[.int .i64 0,.string ⟨#[]⟩,.int .i64 0,.int .i64 0,.int .i64 0] 56)).grown hg6 (by simp only [World.size_alloc];omega) (fun k e=>by (have:=Kit.own_base O5.out k e;omega));have bx6:=(bx5.below ((Below.refl w5.heap.size w5).alloc (Nat.le_refl _) (.cells #[.int .i64 0,.string ⟨#[]⟩,.int .i64 0,.int .i64 0,.int .i64 0] 56)) bx5.sz).grown hg6 (fun e=>by (have:=Kit.own_base O5.out _ e;omega));have g0:=bx6.cell 0;have g1:=bx6.cell 1;have g2:=bx6.cell 2;have g3:=bx6.cell 3;have g4:=bx6.cell 4;simp at g0 g1 g2 g3 g4;obtain ⟨a6,cap6,rfl⟩:=own_form o6;have O6:=hid o6;clear o6 o6' hg6 hk6)|(go_at_call 187;refine (HAp.out _ _ _ O6.out (by omega)).mono ?_;rintro e w7 ⟨v7,rfl,o7,G7⟩;obtain ⟨a7,cap7,rfl⟩:=own_form o7;have B7:=G7.to_below B6 B6.size (fun k e=>by (have:=Kit.own_base O6.out k e;omega));have O7:=hid o7;clear o7))
   ·(exact bodyPost_ret (v:=.tuple #[.slice a7 M.length cap7,.int .i64 m.length,.int .i64 0]) (by simp [results,Tryz.results163,go_sem]) rfl ⟨_,_,_,_,HA3.out HF.out (by omega),rfl,ownC_mono O7.out (by omega),B7⟩)
   ·(exact bodyPost_ret (v:=.tuple #[.slice a4 l.length cap4,.int .i64 r,.int .i64 0]) (by simp [results,Tryz.results163,go_sem]) rfl ⟨_,_,_,_,HA1.out r HF.out,rfl,ownC_mono O5.out (by omega),B5⟩)
 ·have hd0 : ((l.length : Int) == 0) = false:=by rw [beq_eq_false_iff_ne];omega
  have hm2 : m = l:=by rw [hm];unfold hdP;rw [if_neg hl0]
  clear hm hl0
  subst m
  by_cases hbig : 4096 < M.length
  ·have hdb : decide (4096 < (M.length : Int)) = true:=by simp;omega
   go_enter Tryz.func163,Tryz.ntmps163
   go_wp2_with (first|(go_at_call 85;refine (HCk.out _ BLw).mono ?_;rintro e w1 ⟨er,hck,rfl,hb1⟩;obtain rfl:=CkIs.det hck H0.out;clear hck;have B1:=belows (B:=w.heap.size) (a:=w) ((Below.refl _ w).alloc (Nat.le_refl _) _) hb1 (by simp);have bx1:=(BX.new w #[.int .i64 c.t,.string c.s,.int .i64 c.n,.int .i64 c.a,.int .i64 c.b] 56).below hb1 (by simp);have c0:=bx1.cell 0;have c1:=bx1.cell 1;have c2:=bx1.cell 2;have c3:=bx1.cell 3;have c4:=bx1.cell 4;simp at c0 c1 c2 c3 c4)|(go_at_call 170;refine (HCe.out _ B1).mono ?_;rintro e w2 ⟨rfl,hb2⟩;have B2:=belows B1 hb2 B1.size;have bx2:=bx1.below hb2 bx1.sz;clear hb2)|(go_at_call 76;refine (HCl.out _ B2).mono ?_;rintro e w4 ⟨v4,rfl,o4,hb4⟩;obtain ⟨a4,cap4,rfl⟩:=own_form o4;have B4:=belows B2 hb4 B2.size;have bx4:=bx2.below hb4 bx2.sz;have hw2:=B2.size;have hs2:=bx2.sz;have d0:=bx4.cell 0;have d1:=bx4.cell 1;have d2:=bx4.cell 2;have d3:=bx4.cell 3;have d4:=bx4.cell 4;simp at d0 d1 d2 d3 d4;have O4:=hid o4;have hz4:=hb4.size;clear o4 hb4)|(go_at_call 93;refine (HFi.out _ B4).mono ?_;rintro e w5 ⟨r,b,hF,rfl,hb5⟩;have B5:=belows B4 hb5 B4.size;have bx5:=bx4.below hb5 bx4.sz;have O5:=hid (Kit.owns_below O4.out hb5 (Nat.le_refl _));have hz5:=hb5.size;have e0:=bx5.cell 0;have e1:=bx5.cell 1;have e2:=bx5.cell 2;have e3:=bx5.cell 3;have e4:=bx5.cell 4;simp at e0 e1 e2 e3 e4;clear hb5;have hr0:=HFF r b hF;have HF:=hid hF;clear hF;cases b;(obtain rfl:=hr0 rfl;clear hr0))|(go_at_call 187;refine (HAp.out _ _ _ O5.out (by omega)).mono ?_;rintro e w7 ⟨v7,rfl,o7,G7⟩;obtain ⟨a7,cap7,rfl⟩:=own_form o7;have B7:=G7.to_below B5 B5.size (fun k e=>by (have:=Kit.own_base O5.out k e;omega));have O7:=hid o7;clear o7))
   ·(exact bodyPost_ret (v:=.tuple #[.slice none 0 0,.int .i64 0,.int .i64 3]) (by simp [results,Tryz.results163,go_sem]) rfl (AdPost.no (HA2.out HF.out hbig) B7))
   ·(exact bodyPost_ret (v:=.tuple #[.slice a4 l.length cap4,.int .i64 r,.int .i64 0]) (by simp [results,Tryz.results163,go_sem]) rfl ⟨_,_,_,_,HA1.out r HF.out,rfl,ownC_mono O5.out (by omega),B5⟩)
  ·have hdb : decide (4096 < (M.length : Int)) = false:=by simp;omega
   go_enter Tryz.func163,Tryz.ntmps163
   go_wp2_with (first|(go_at_call 85;refine (HCk.out _ BLw).mono ?_;rintro e w1 ⟨er,hck,rfl,hb1⟩;obtain rfl:=CkIs.det hck H0.out;clear hck;have B1:=belows (B:=w.heap.size) (a:=w) ((Below.refl _ w).alloc (Nat.le_refl _) _) hb1 (by simp);have bx1:=(BX.new w #[.int .i64 c.t,.string c.s,.int .i64 c.n,.int .i64 c.a,.int .i64 c.b] 56).below hb1 (by simp);have c0:=bx1.cell 0;have c1:=bx1.cell 1;have c2:=bx1.cell 2;have c3:=bx1.cell 3;have c4:=bx1.cell 4;simp at c0 c1 c2 c3 c4)|(go_at_call 170;refine (HCe.out _ B1).mono ?_;rintro e w2 ⟨rfl,hb2⟩;have B2:=belows B1 hb2 B1.size;have bx2:=bx1.below hb2 bx1.sz;clear hb2)|(go_at_call 76;refine (HCl.out _ B2).mono ?_;rintro e w4 ⟨v4,rfl,o4,hb4⟩;obtain ⟨a4,cap4,rfl⟩:=own_form o4;have B4:=belows B2 hb4 B2.size;have bx4:=bx2.below hb4 bx2.sz;have hw2:=B2.size;have hs2:=bx2.sz;have d0:=bx4.cell 0;have d1:=bx4.cell 1;have d2:=bx4.cell 2;have d3:=bx4.cell 3;have d4:=bx4.cell 4;simp at d0 d1 d2 d3 d4;have O4:=hid o4;have hz4:=hb4.size;clear o4 hb4)|(go_at_call 93;refine (HFi.out _ B4).mono ?_;rintro e w5 ⟨r,b,hF,rfl,hb5⟩;have B5:=belows B4 hb5 B4.size;have bx5:=bx4.below hb5 bx4.sz;have O5:=hid (Kit.owns_below O4.out hb5 (Nat.le_refl _));have hz5:=hb5.size;have e0:=bx5.cell 0;have e1:=bx5.cell 1;have e2:=bx5.cell 2;have e3:=bx5.cell 3;have e4:=bx5.cell 4;simp at e0 e1 e2 e3 e4;clear hb5;have hr0:=HFF r b hF;have HF:=hid hF;clear hF;cases b;(obtain rfl:=hr0 rfl;clear hr0))|(go_at_call 187;refine (HAp.out _ _ _ O5.out (by omega)).mono ?_;rintro e w7 ⟨v7,rfl,o7,G7⟩;obtain ⟨a7,cap7,rfl⟩:=own_form o7;have B7:=G7.to_below B5 B5.size (fun k e=>by (have:=Kit.own_base O5.out k e;omega));have O7:=hid o7;clear o7))
   ·(exact bodyPost_ret (v:=.tuple #[.slice a7 M.length cap7,.int .i64 l.length,.int .i64 0]) (by simp [results,Tryz.results163,go_sem]) rfl ⟨_,_,_,_,HA3.out HF.out (by omega),rfl,ownC_mono O7.out (by omega),B7⟩)
   ·(exact bodyPost_ret (v:=.tuple #[.slice a4 l.length cap4,.int .i64 r,.int .i64 0]) (by simp [results,Tryz.results163,go_sem]) rfl ⟨_,_,_,_,HA1.out r HF.out,rfl,ownC_mono O5.out (by omega),B5⟩)
end Go.Proofs.YtnojgiflgmnjlaaGreatDoor.L3
