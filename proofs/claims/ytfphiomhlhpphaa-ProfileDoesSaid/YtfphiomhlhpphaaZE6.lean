/- Own texts for the claim, part 6. -/
import Derived.Test.YtfphiomhlhpphaaZE5
namespace Go.Proofs.Ytfphiomhlhpphaa
open Go Go.RowKit
open Pf (Site Sn ix addk alt keys)
set_option maxRecDepth 100000
set_option maxHeartbeats 4000000
theorem field_l (a b : Int) (va : Option Addr) (n vc : Nat) (m : Bool) (W : World) : (Instr.field 99 (.agg #[.int .i64 a,.int .i64 b,.slice va n vc,.bool m]) 1).run Try.prog W = .ok (.slice va n vc) W:=by kernel_rfl
theorem field_m (a b : Int) (va : Option Addr) (n vc : Nat) (m : Bool) (W : World) : (Instr.field 99 (.agg #[.int .i64 a,.int .i64 b,.slice va n vc,.bool m]) 2).run Try.prog W = .ok (.bool m) W:=by kernel_rfl
structure ClI (w0 : World) (v : Value) (l o : List Sn) (ov : Value) (i : Nat) (W : World) : Prop where
 ow : W.ownsRow w0.heap.size 44 2 ov o.length (o.flatMap evL)
 eq : o = (l.take i).foldl Pf.ins []
 bel : Below w0.heap.size w0 W
theorem ClI.below {w0 : World} {v : Value} {l o : List Sn} {ov : Value} {i : Nat} {W X : World} (h : ClI w0 v l o ov i W) (hb : Below W.heap.size W X) : ClI w0 v l o ov i X :=
 ⟨Kit.owns_below h.ow hb (Nat.le_refl _),h.eq,belows h.bel hb h.bel.size⟩
theorem ClI.len {w0 : World} {v : Value} {l o : List Sn} {ov : Value} {i : Nat} {W : World} (h : ClI w0 v l o ov i W) (hi : i ≤ l.length) : o.length = i:=by
 have e : ∀ (a b : List Sn),(a.foldl Pf.ins b).length = b.length + a.length:=by
  intro a
  induction a with
  | nil=>intro b;simp
  | cons x a ih=>intro b;rw [List.foldl_cons,ih,Pf.ins_len,List.length_cons];omega
 rw [h.eq,e,List.length_take]
 simp
 omega
theorem fold_step {l o : List Sn} {i : Nat} {x : Sn} (h : o = (l.take i).foldl Pf.ins []) (hx : l[i]? = some x) : Pf.ins o x = (l.take (i + 1)).foldl Pf.ins []:=by
 rw [List.take_add_one,hx,List.foldl_append,← h]
 rfl
theorem flat_take {α : Type} {f : α → List Value} {s : Nat} (hf : ∀ x,(f x).length = s) : ∀ (l : List α) (p : Nat),(l.take p).flatMap f = (l.flatMap f).take (p * s)
 | [],p=>by simp
 | a :: l,0=>by simp
 | a :: l,p + 1=>by
  rw [List.take_succ_cons,List.flatMap_cons,List.flatMap_cons,flat_take hf l p,List.take_append,hf]
  have e : (p + 1) * s - s = p * s:=by rw [Nat.add_mul];omega
  rw [e,List.take_of_length_le (l:=f a) (by rw [hf,Nat.add_mul];omega)]
theorem flat_drop {α : Type} {f : α → List Value} {s : Nat} (hf : ∀ x,(f x).length = s) : ∀ (l : List α) (p : Nat),(l.drop p).flatMap f = (l.flatMap f).drop (p * s)
 | [],p=>by simp
 | a :: l,0=>by simp
 | a :: l,p + 1=>by
  rw [List.drop_succ_cons,List.flatMap_cons,flat_drop hf l p,List.drop_append,hf]
  have e : (p + 1) * s - s = p * s:=by rw [Nat.add_mul];omega
  have e3 : (f a).drop ((p + 1) * s) = []:=List.drop_eq_nil_of_le (by rw [hf,Nat.add_mul];omega)
  rw [e,e3,List.nil_append]
theorem isS_take {α : Type} {f : α → List Value} {s : Nat} (hf : ∀ x,(f x).length = s) {w : World} {base : Nat} {e : TypeId} {g oc : Nat} {o : List α} (h : w.ownsRow base e s (.slice (some ⟨g,0,none⟩) o.length oc) o.length (o.flatMap f)) {p : Nat} (hp : p ≤ o.length) (hb : o.length ≤ 140737488355328) : Kit.IsS s w (.slice (some ⟨g,0,none⟩) p oc) p ((o.take p).flatMap f):=by
 have h2:=Kit.isS_of_owns h hb
 rcases h.2 with ⟨h3,-⟩|⟨g',cap,cur,hv,hg,hh,hc1,-⟩
 ·cases h3
 ·obtain ⟨e1,-,rfl⟩:=Value.slice.inj hv
  obtain rfl : g = g':=by simpa using e1
  refine ⟨by rw [Kit.flat_len hf,List.length_take,Nat.min_eq_left hp],Nat.le_trans hp hb,.inr ⟨g,0,_,rfl,by omega,(Array.getElem?_eq_some_iff.1 hh).1,fun i u hi=>?_⟩⟩
  rw [flat_take hf] at hi
  have hlt : i < p * s:=by
   have:=(List.getElem?_eq_some_iff.1 hi).1
   rw [List.length_take] at this
   omega
  rw [List.getElem?_take_of_lt hlt] at hi
  rcases h2.2.2 with ⟨h0,-⟩|⟨b,ofs,c,he,-,-,hc⟩
  ·rw [List.length_eq_zero_iff.1 h0] at hi
   simp at hi
  ·obtain ⟨e2,-,-⟩:=Value.slice.inj he
   rw [Option.some.injEq,Addr.mk.injEq] at e2
   obtain ⟨rfl,rfl,-⟩:=e2
   exact hc i u hi
theorem isS_drop {α : Type} {f : α → List Value} {s : Nat} (hf : ∀ x,(f x).length = s) {w : World} {base : Nat} {e : TypeId} {g oc : Nat} {o : List α} (h : w.ownsRow base e s (.slice (some ⟨g,0,none⟩) o.length oc) o.length (o.flatMap f)) {p : Nat} (hp : p ≤ o.length) (hb : o.length ≤ 140737488355328) : Kit.IsS s w (.slice (some ⟨g,p * s,none⟩) (o.length - p) (oc - p)) (o.length - p) ((o.drop p).flatMap f):=by
 have h2:=Kit.isS_of_owns h hb
 rcases h.2 with ⟨h3,-⟩|⟨g',cap,cur,hv,hg,hh,hc1,-⟩
 ·cases h3
 ·obtain ⟨e1,-,rfl⟩:=Value.slice.inj hv
  obtain rfl : g = g':=by simpa using e1
  refine ⟨by rw [Kit.flat_len hf,List.length_drop],by omega,.inr ⟨g,p * s,_,rfl,by omega,(Array.getElem?_eq_some_iff.1 hh).1,fun i u hi=>?_⟩⟩
  rw [flat_drop hf,List.getElem?_drop] at hi
  rcases h2.2.2 with ⟨h0,-⟩|⟨b,ofs,c,he,-,-,hc⟩
  ·rw [List.length_eq_zero_iff.1 h0] at hi
   simp at hi
  ·obtain ⟨e2,-,-⟩:=Value.slice.inj he
   rw [Option.some.injEq,Addr.mk.injEq] at e2
   obtain ⟨rfl,rfl,-⟩:=e2
   have:=hc (p * s + i) u hi
   rwa [Nat.zero_add] at this
theorem isS_drop2 {α : Type} {f : α → List Value} {s : Nat} (hf : ∀ x,(f x).length = s) {w : World} {base : Nat} {e : TypeId} {g oc : Nat} {o : List α} (h : w.ownsRow base e s (.slice (some ⟨g,0,none⟩) o.length oc) o.length (o.flatMap f)) {p : Nat} (hp : p ≤ o.length) (hb : o.length ≤ 140737488355328) : Kit.IsS s w (.slice (if oc = p then some ⟨g,0,none⟩ else some ⟨g,p * s,none⟩) (o.length - p) (oc - p)) (o.length - p) ((o.drop p).flatMap f):=by
 have h1:=isS_drop hf h hp hb
 by_cases hc : oc = p
 ·have hle : o.length ≤ oc:=by
   rcases h.2 with ⟨h3,-⟩|⟨g',cap,cur,hv,hg,hh,hc1,-⟩
   ·cases h3
   ·obtain ⟨-,-,rfl⟩:=Value.slice.inj hv
    exact hc1
  have e0 : o.length - p = 0:=by omega
  refine ⟨h1.1,h1.2.1,.inl ⟨e0,?_⟩⟩
  rw [e0]
  exact ⟨_,_,rfl⟩
 ·rw [if_neg hc]
  exact h1
theorem rClasses_any {w : World} {base : Nat} {r : PR} (h : RefR w base r) (hn : r.C.length ≤ 2932031007340) (s : Site) (hok : Pf.OkC (Pf.look ce0 r.C s).2) : Calls Try.prog 38 #[.pointer (some ⟨r.pb,0,none⟩),stV s] w fun e w'=>∃ v,e = .returned v ∧ w'.ownsRow w.heap.size 44 2 v (Pf.srt (Pf.look ce0 r.C s).2.1).length ((Pf.srt (Pf.look ce0 r.C s).2.1).flatMap evL) ∧ Below w.heap.size w w':=by
 obtain ⟨i0,hi0,hz0,hz1,hzb⟩:=info_parts infoSe
 obtain ⟨w0,hw0⟩ : ∃ w0,w0 = w.alloc (.cells #[.int .i64 s.1,.int .i64 s.2] 29):=⟨_,rfl⟩
 have HB0 : Hid (Below w.heap.size w w0):=by show Below _ _ _;rw [hw0];exact (Below.refl _ _).alloc (Nat.le_refl _) _
 have bx : BX w0 w.heap.size #[.int .i64 s.1,.int .i64 s.2] 29:=by rw [hw0];exact BX.new w _ _
 have b0 : w0.cell? ⟨w.heap.size,0,none⟩ = some (.int .i64 s.1):=bx.cell 0
 have b1 : w0.cell? ⟨w.heap.size,1,none⟩ = some (.int .i64 s.2):=bx.cell 1
 have HW0:=hid hw0
 have h0:=h.below HB0.out
 have HA:=rat_any h0 hn s
 unfold AtPost at HA
 have HA:=hid HA
 have hlk:=h0.lk s
 obtain ⟨⟨v,l,m⟩,hl⟩ : ∃ c,Pf.look ce0 r.C s = c:=⟨_,rfl⟩
 rw [hl] at hlk HA hok ⊢
 dsimp only at hlk HA hok ⊢
 have hl4:=hok.ln
 change l.length ≤ 4 at hl4
 obtain ⟨va,vc,hv⟩:=own_form hlk
 have HIs:=hid (fun X (b : Below w0.heap.size w0 X)=>Kit.isS_of_owns (Kit.owns_below hlk b (Nat.le_refl _)) (by omega))
 have HRow:=hid (fun X (b : Below w0.heap.size w0 X)=>Kit.owns_below hlk b (Nat.le_refl _))
 subst hv
 obtain ⟨n,hnn⟩ : ∃ n,l.length = n:=⟨_,rfl⟩
 have HN:=hid hnn
 rw [hnn] at HIs HA HRow hl4
 unfold stV at HA ⊢
 clear hl bx hw0 h h0 hn hok hlk hnn
 have hfl:=field_l
 go_enter Try.func38,Try.ntmps38
 go_upto_region 1 with fail
 rw [← HW0.out]
 go_upto_region 2 with (go_at_call 58;go_loud (refine HA.out.mono ?_;rintro e w1 ⟨⟨a,b,rfl⟩,hb⟩;have HB1:=hid hb;clear hb b0 b1))
 go_wp2
 have HI0 : Hid (ClI w1 (.slice va n vc) l [] (.slice none 0 0) 0 w1):=⟨⟨rfl,.inl ⟨rfl,rfl⟩⟩,rfl,Below.refl _ _⟩
 go_loopw [6,7] (fun ov q wr=>∃ (i : Nat) (o : List Sn),q = .int .i64 (i : Int) ∧ i ≤ n ∧ Hid (ClI w1 (.slice va n vc) l o ov i wr)) (fun _ q _=>n - (intOf q).toNat)
 case atStart=>exact ⟨0,[],rfl,Nat.zero_le _,HI0⟩
 case round =>
  clear HI0
  obtain ⟨i,o,rfl,hi,HI⟩:=hrel
  obtain ⟨wo,hwo⟩ : ∃ wo,wo = wr:=⟨_,rfl⟩
  rw [← hwo] at HI ⊢
  clear hwo
  have hol:=HI.out.len (by rw [HN.out];exact hi)
  obtain ⟨oa,oc,hov⟩:=own_form HI.out.ow
  rw [hol] at hov
  by_cases hlt : i < n
  ·obtain ⟨x,hx⟩ : ∃ x,l[i]? = some x:=⟨_,List.getElem?_eq_getElem (by rw [HN.out];exact hlt)⟩
   have hin : (i : Int) < (n : Int):=by omega
   have HOl:=hid hol
   have HOv:=hid hov
   have HX:=hid hx
   have HSt:=hid (fold_step HI.out.eq hx)
   subst hov
   clear hol hx
   go_upto_block 2 with fail
   go_cut [8] (fun q wx=>q = .int .i64 (Pf.pos o x : Nat) ∧ Hid (Below wo.heap.size wo wx))
   case first =>
    go_wp2
    go_loopw [8] (fun q wr2=>∃ k : Nat,q = .int .i64 (k : Int) ∧ Hid (k ≤ Pf.pos o x) ∧ Hid (Below wo.heap.size wo wr2)) (fun q _=>i - (intOf q).toNat)
    case atStart=>exact ⟨0,rfl,Nat.zero_le _,Below.refl _ _⟩
    case round =>
     obtain ⟨k,rfl,HK,HW⟩:=hrel
     have HPl:=hid (Pf.pos_le o x)
     by_cases hk : k < i
     ·obtain ⟨y,hy⟩ : ∃ y,o[k]? = some y:=⟨_,List.getElem?_eq_getElem (by rw [HOl.out];exact hk)⟩
      obtain ⟨g,cap,hg,-,hgl,hgc⟩:=row_at evL_len (HI.out.below HW.out).ow hy
      obtain ⟨e1,-,e2⟩:=Value.slice.inj hg
      subst e1 e2
      obtain ⟨q,qc,hq,-,hql,hqc⟩:=row_at evL_len (L:=l) (by rw [HN.out];exact HRow.out wr (belows HB1.out (belows HI.out.bel HW.out HI.out.bel.size) HB1.out.size)) HX.out
      obtain ⟨e1,-,e2⟩:=Value.slice.inj hq
      subst e1 e2
      have y0 : wr.cell? ⟨g,k * 2,none⟩ = some (.int .i64 y.1):=(hgc 0 (by omega)).1
      have y1 : wr.cell? ⟨g,k * 2 + 1,none⟩ = some (.int .i64 y.2):=(hgc 1 (by omega)).1
      have x0 : wr.cell? ⟨q,i * 2,none⟩ = some (.int .i64 x.1):=(hqc 0 (by omega)).1
      have x1 : wr.cell? ⟨q,i * 2 + 1,none⟩ = some (.int .i64 x.2):=(hqc 1 (by omega)).1
      have hki : (k : Int) < (i : Int):=by omega
      have hdk : decide ((k : Int) < (i : Int)) = true:=by simpa using hk
      have HY:=hid (fun b=>Pf.pos_step (l:=o) (x:=x) HK.out hy b)
      have HT:=hid (fun b=>Pf.pos_at (l:=o) (x:=x) HK.out hy b)
      have HBf : Hid (Pf.bef y x = (decide (x.2 < y.2) || (decide (y.2 = x.2) && decide (y.1 < x.1)))):=rfl
      clear hgc hqc hg hq hy
      have D : decide (x.2 < y.2) = true ∨ (decide (x.2 < y.2) = false ∧ (y.2 == x.2) = true ∧ decide (y.1 < x.1) = true) ∨ (decide (x.2 < y.2) = false ∧ (y.2 == x.2) = true ∧ decide (y.1 < x.1) = false) ∨ (decide (x.2 < y.2) = false ∧ (y.2 == x.2) = false):=by
       cases decide (x.2 < y.2) <;> cases (y.2 == x.2) <;> cases decide (y.1 < x.1) <;> simp
      have EQ : decide (y.2 = x.2) = (y.2 == x.2):=by rw [Bool.eq_iff_iff];simp
      rw [EQ] at HBf
      clear EQ
      rcases D with c1|⟨c1,c2,c3⟩|⟨c1,c2,c3⟩|⟨c1,c2⟩
      ·have HB : Hid (k + 1 ≤ Pf.pos o x):=HY.out (by rw [HBf.out,c1];rfl)
       go_wp2
       go_quiet (fail)
       go_wp2
       go_roundw
       case rel=>exact ⟨k + 1,by go_num,HB,belows_drewN HW.out nq⟩
       case measure=>simp [intOf];omega
      ·have HB : Hid (k + 1 ≤ Pf.pos o x):=HY.out (by rw [HBf.out,c1,c2,c3];rfl)
       go_wp2
       go_quiet (fail)
       go_wp2
       go_roundw
       case rel=>exact ⟨k + 1,by go_num,HB,belows_drewN HW.out nq⟩
       case measure=>simp [intOf];omega
      ·have HB : Hid (Pf.pos o x = k):=HT.out (by rw [HBf.out,c1,c2,c3];simp)
       go_wp2
       go_quiet (fail)
       go_wp2
       go_meet
       exact ⟨by rw [HB.out],belows_drewN HW.out nq⟩
      ·have HB : Hid (Pf.pos o x = k):=HT.out (by rw [HBf.out,c1,c2];simp)
       go_wp2
       go_quiet (fail)
       go_wp2
       go_meet
       exact ⟨by rw [HB.out],belows_drewN HW.out nq⟩
     ·have hdk : decide ((k : Int) < (i : Int)) = false:=by simp;omega
      have HB : Hid (Pf.pos o x = k):=by
       have h1:=HK.out
       have h2:=HPl.out
       have h3:=HOl.out
       show _ = _
       omega
      have hki : ¬ (k : Int) < (i : Int):=by omega
      go_wp2
      go_quiet (fail)
      go_wp2
      go_meet
      exact ⟨by rw [HB.out],belows_drewN HW.out nq⟩
   case rest =>
    obtain ⟨rfl,HW⟩:=hcut
    obtain ⟨W,hW⟩ : ∃ W,W = wc:=⟨_,rfl⟩
    rw [← hW] at HW ⊢
    clear hW
    have HIW:=hid (HI.out.below HW.out)
    have hpl:=Pf.pos_le o x
    rw [HOl.out] at hpl
    obtain ⟨p,hp⟩ : ∃ p,Pf.pos o x = p:=⟨_,rfl⟩
    have HP:=hid hp
    rw [hp] at hpl ⊢
    have how:=HIW.out.ow
    have hpi : (p : Int) ≤ (i : Int):=by omega
    clear hp
    rcases how.2 with ⟨h1,h2⟩|⟨g,cap,cur,h1,hgb,hh,hc1,hc2,hc3,ht⟩
    ·obtain ⟨e1,e0,e2⟩:=Value.slice.inj h1
     subst e1 e2
     obtain rfl : o = []:=List.eq_nil_of_length_eq_zero h2
     obtain rfl : i = 0:=e0
     obtain rfl : p = 0:=by omega
     have HS1 : Hid (Kit.IsS 2 W (.slice none 0 0) 0 []):=⟨rfl,Nat.zero_le _,.inl ⟨rfl,_,_,rfl⟩⟩
     have HS2:=hid (fun X (_ : Below W.heap.size W X)=>(⟨rfl,Nat.zero_le _,.inl ⟨rfl,_,_,rfl⟩⟩ : Kit.IsS 2 X (.slice none 0 0) 0 []))
     go_upto_region 10 with (at_builtin;go_loud (refine Kit.wpList_rows rfl (.const (.slice none 0 0)) (.tmp 67) 41 rfl W.heap.size 44 i0 _ 2 16 Try.underlying41 hi0 hz0 hz1 hzb rfl (by decide) (.slice none 0 0) 0 [] rfl ⟨rfl,.inl ⟨rfl,rfl⟩⟩ (Nat.le_refl _) (.slice none 0 0) 0 [] rfl HS1.out (fun u hu=>by cases hu) (by unfold maxLen;omega) (by omega) ?_;intro v9 W9 ho9 hg9 _;rw [Nat.zero_add,List.nil_append] at ho9;have hb9 : Below W.heap.size W W9:=Kit.below_grown (Below.refl _ _) hg9 (Nat.le_refl _) (fun k e=>by simp [Value.ownBlock] at e);have HO9:=hid (fun X (b : Below W9.heap.size W9 X)=>Kit.owns_below ho9 b (Nat.le_refl _));have HB9:=hid hb9;obtain ⟨la,lc,h9⟩:=own_form ho9;subst h9;clear ho9 hg9 hb9))
     obtain ⟨q,qc,hq,-,hql,hqc⟩:=row_at evL_len (L:=l) (by rw [HN.out];exact HRow.out W9 (belows HB1.out (belows (belows HI.out.bel HW.out HI.out.bel.size) HB9.out (belows HI.out.bel HW.out HI.out.bel.size).size) HB1.out.size)) HX.out
     obtain ⟨e1,-,e2⟩:=Value.slice.inj hq
     subst e1 e2
     have x0 : W9.cell? ⟨q,0,none⟩ = some (.int .i64 x.1):=(hqc 0 (by omega)).1
     have x1 : W9.cell? ⟨q,1,none⟩ = some (.int .i64 x.2):=(hqc 1 (by omega)).1
     clear hqc hq
     have hz9:=HB9.out.size
     have HSz:=hid (show w1.heap.size ≤ W.heap.size from HIW.out.bel.size)
     go_region_law (first
      | (refine Kit.step_append_own rfl (.tmp 69) (.tmp 74) 41 rfl W.heap.size 44 i0 _ 2 16 Try.underlying41 hi0 hz0 hz1 hzb rfl (by decide) (.slice la 0 lc) 0 _ rfl (HO9.out _ BLw) ⟨W9.heap.size,0,none⟩ 1 1 [.int .i64 x.1,.int .i64 x.2] rfl rfl (news_of _ _ _) (by intro u hu;simp at hu;rcases hu with rfl|rfl <;> rfl) (by unfold maxLen;omega) (by omega) (by first|omega|(simp;omega)) ?_;intro v10 W10 ho10 hg10 _;go_loud (have hb10 : Below W.heap.size W W10:=Kit.below_grown (belows HB9.out BLw HB9.out.size) hg10 (by first|omega|(simp;omega)) (fun b e=>Kit.own_base (HO9.out W9 (Below.refl _ _)) b e);have HO10:=hid (fun X (b : Below W10.heap.size W10 X)=>Kit.owns_below ho10 b (Nat.le_refl _));have HB10:=hid hb10;have hz10:=hb10.size;obtain ⟨a10,c10,h10⟩:=own_form ho10;subst h10;clear ho10 hg10 hb10))
      | (refine Kit.step_rows rfl (.tmp 75) (.tmp 78) 41 rfl W.heap.size 44 i0 _ 2 16 Try.underlying41 hi0 hz0 hz1 hzb rfl (by decide) (.slice a10 1 c10) 1 _ rfl (HO10.out _ (by first|exact Below.refl _ _|exact Below.drew (Below.refl _ _))) hz10 (.slice none 0 0) 0 [] rfl (HS2.out _ (by first|exact HB10.out|exact Below.drew HB10.out)) (fun u hu=>by cases hu) (by unfold maxLen;omega) (by omega) ?_;intro v11 W11 ho11 hg11 _;go_loud (have hb11 : Below W.heap.size W W11:=Kit.below_grown HB10.out hg11 hz10 (fun b e=>Kit.own_base (HO10.out W10 (Below.refl _ _)) b e);obtain ⟨a11,c11,h11⟩:=own_form ho11;subst h11;have HCl : Hid (ClI w1 (.slice (some ⟨q,0,none⟩) n vc) l (Pf.ins [] x) (.slice a11 1 c11) 1 W11):=(⟨Kit.owns_mono ho11 HSz.out,HSt.out,belows HIW.out.bel hb11 HIW.out.bel.size⟩);clear ho11 hg11 hb11)))
     all_goals
      go_wp2
      go_roundw
      case rel=>exact ⟨1,Pf.ins [] x,by go_num,by omega,HCl⟩
      case measure=>simp [intOf];omega
    ·obtain ⟨e1,-,e2⟩:=Value.slice.inj h1
     subst e1 e2
     have hio:=HOl.out
     subst hio
     have hic : (o.length : Int) ≤ (oc : Int):=by omega
     have HS1:=hid (isS_take evL_len (p:=p) how (by omega) (by omega))
     have HS2:=hid (fun X (b : Below W.heap.size W X)=>isS_drop2 evL_len (p:=p) (Kit.owns_below how b (Nat.le_refl _)) (by omega) (by omega))
     have hgw : g < W.heap.size:=(Array.getElem?_eq_some_iff.1 hh).1
     go_upto_region 10 with (at_builtin;go_loud (refine Kit.wpList_rows rfl (.const (.slice none 0 0)) (.tmp 67) 41 rfl W.heap.size 44 i0 _ 2 16 Try.underlying41 hi0 hz0 hz1 hzb rfl (by decide) (.slice none 0 0) 0 [] rfl ⟨rfl,.inl ⟨rfl,rfl⟩⟩ (Nat.le_refl _) (.slice (some ⟨g,0,none⟩) p oc) p ((o.take p).flatMap evL) rfl HS1.out (ones_ev _) (by unfold maxLen;omega) (by omega) ?_;intro v9 W9 ho9 hg9 _;rw [Nat.zero_add,List.nil_append] at ho9;have hb9 : Below W.heap.size W W9:=Kit.below_grown (Below.refl _ _) hg9 (Nat.le_refl _) (fun k e=>by simp [Value.ownBlock] at e);have HO9:=hid (fun X (b : Below W9.heap.size W9 X)=>Kit.owns_below ho9 b (Nat.le_refl _));have HB9:=hid hb9;obtain ⟨la,lc,h9⟩:=own_form ho9;subst h9;clear ho9 hg9 hb9))
     obtain ⟨q,qc,hq,-,hql,hqc⟩:=row_at evL_len (L:=l) (by rw [HN.out];exact HRow.out W9 (belows HB1.out (belows (belows HI.out.bel HW.out HI.out.bel.size) HB9.out (belows HI.out.bel HW.out HI.out.bel.size).size) HB1.out.size)) HX.out
     obtain ⟨e1,-,e2⟩:=Value.slice.inj hq
     subst e1 e2
     have x0 : W9.cell? ⟨q,o.length * 2,none⟩ = some (.int .i64 x.1):=(hqc 0 (by omega)).1
     have x1 : W9.cell? ⟨q,o.length * 2 + 1,none⟩ = some (.int .i64 x.2):=(hqc 1 (by omega)).1
     clear hqc hq hh ht hc2 hc3
     have hz9:=HB9.out.size
     have HSz:=hid (show w1.heap.size ≤ W.heap.size from HIW.out.bel.size)
     go_region_law (first
      | (refine Kit.step_append_own rfl (.tmp 69) (.tmp 74) 41 rfl W.heap.size 44 i0 _ 2 16 Try.underlying41 hi0 hz0 hz1 hzb rfl (by decide) (.slice la p lc) p _ rfl (HO9.out _ BLw) ⟨W9.heap.size,0,none⟩ 1 1 [.int .i64 x.1,.int .i64 x.2] rfl rfl (news_of _ _ _) (by intro u hu;simp at hu;rcases hu with rfl|rfl <;> rfl) (by unfold maxLen;omega) (by omega) (by first|omega|(simp;omega)) ?_;intro v10 W10 ho10 hg10 _;go_loud (have hb10 : Below W.heap.size W W10:=Kit.below_grown (belows HB9.out BLw HB9.out.size) hg10 (by first|omega|(simp;omega)) (fun b e=>Kit.own_base (HO9.out W9 (Below.refl _ _)) b e);have HO10:=hid (fun X (b : Below W10.heap.size W10 X)=>Kit.owns_below ho10 b (Nat.le_refl _));have HB10:=hid hb10;have hz10:=hb10.size;obtain ⟨a10,c10,h10⟩:=own_form ho10;subst h10;clear ho10 hg10 hb10))
      | (refine Kit.step_rows rfl (.tmp 75) (.tmp 78) 41 rfl W.heap.size 44 i0 _ 2 16 Try.underlying41 hi0 hz0 hz1 hzb rfl (by decide) (.slice a10 (p + 1) c10) (p + 1) _ rfl (HO10.out _ (by first|exact Below.refl _ _|exact Below.drew (Below.refl _ _))) hz10 (.slice (if oc = p then some ⟨g,0,none⟩ else some ⟨g,p * 2,none⟩) (o.length - p) (oc - p)) (o.length - p) ((o.drop p).flatMap evL) rfl (HS2.out _ (by first|exact HB10.out|exact Below.drew HB10.out)) (ones_ev _) (by unfold maxLen;omega) (by omega) ?_;intro v11 W11 ho11 hg11 _;go_loud (have hb11 : Below W.heap.size W W11:=Kit.below_grown HB10.out hg11 hz10 (fun b e=>Kit.own_base (HO10.out W10 (Below.refl _ _)) b e);obtain ⟨a11,c11,h11⟩:=own_form ho11;subst h11;have HCl : Hid (ClI w1 (.slice (some ⟨q,0,none⟩) n vc) l (Pf.ins o x) (.slice a11 (p + 1 + (o.length - p)) c11) (o.length + 1) W11):=(by (refine ⟨?_,HSt.out,belows HIW.out.bel hb11 HIW.out.bel.size⟩);(rw [Pf.ins_len,show o.length + 1 = p + 1 + (o.length - p) by omega]);(unfold Pf.ins);(rw [HP.out,List.flatMap_append,List.flatMap_append]);exact Kit.owns_mono ho11 HSz.out);clear ho11 hg11 hb11)))
     all_goals
      go_wp2
      go_roundw
      case rel=>exact ⟨o.length + 1,Pf.ins o x,by go_num,by omega,HCl⟩
      case measure=>simp [intOf];omega
  ·obtain rfl : i = n:=by omega
   have HE : Hid (o = Pf.srt l):=by
    have:=HI.out.eq
    rw [List.take_of_length_le (by rw [HN.out];exact Nat.le_refl _)] at this
    exact this
   have HOv:=hid hov
   go_wp2
   go_ret
   refine ⟨_,rfl,?_,belows (belows HB0.out HB1.out HB0.out.size) HI.out.bel (belows HB0.out HB1.out HB0.out.size).size⟩
   rw [← HE.out]
   exact Kit.owns_mono HI.out.ow (belows HB0.out HB1.out HB0.out.size).size
end Go.Proofs.Ytfphiomhlhpphaa
namespace Go.Proofs.Ytfphiomhlhpphaa
open Go Go.RowKit
open Pf (Site Sn ix addk alt keys)
set_option maxRecDepth 100000
set_option maxHeartbeats 2000000
def mainO (c : List Sn × Bool) : Int × Bool:=if c.2 = true then (0,false) else match Pf.srt c.1 with|[]=>(0,false)|y :: _=>(y.1,true)
theorem rMain_any {w : World} {base : Nat} {r : PR} (h : RefR w base r) (hn : r.C.length ≤ 2932031007340) (s : Site) (hok : Pf.OkC (Pf.look ce0 r.C s).2) : Calls Try.prog 33 #[.pointer (some ⟨r.pb,0,none⟩),stV s] w fun e w'=>e = .returned (.tuple #[.int .i64 (mainO (Pf.look ce0 r.C s).2).1,.bool (mainO (Pf.look ce0 r.C s).2).2]) ∧ Below w.heap.size w w':=by
 obtain ⟨w0,hw0⟩ : ∃ w0,w0 = w.alloc (.cells #[.int .i64 s.1,.int .i64 s.2] 29):=⟨_,rfl⟩
 have HB0 : Hid (Below w.heap.size w w0):=by show Below _ _ _;rw [hw0];exact (Below.refl _ _).alloc (Nat.le_refl _) _
 have bx : BX w0 w.heap.size #[.int .i64 s.1,.int .i64 s.2] 29:=by rw [hw0];exact BX.new w _ _
 have b0 : w0.cell? ⟨w.heap.size,0,none⟩ = some (.int .i64 s.1):=bx.cell 0
 have b1 : w0.cell? ⟨w.heap.size,1,none⟩ = some (.int .i64 s.2):=bx.cell 1
 have HBx:=hid bx
 have HW0:=hid hw0
 have h0:=h.below HB0.out
 have HC:=hid (rClasses_any h0 hn s hok)
 have HA:=hid (fun X (b : Below w0.heap.size w0 X)=>rat_any (h0.below b) hn s)
 unfold AtPost at HA
 obtain ⟨⟨v,l,m⟩,hl⟩ : ∃ c,Pf.look ce0 r.C s = c:=⟨_,rfl⟩
 have hlk:=h0.lk s
 rw [hl] at HC HA hlk ⊢
 dsimp only at HC HA hlk ⊢
 obtain ⟨va,vc,hv⟩:=own_form hlk
 subst hv
 have HMn : Hid (mainO (l,m) = if m = true then (0,false) else match Pf.srt l with|[]=>(0,false)|y :: _=>(y.1,true)):=rfl
 obtain ⟨L,hL⟩ : ∃ L,Pf.srt l = L:=⟨_,rfl⟩
 rw [hL] at HC HMn
 obtain ⟨ln,hln⟩ : ∃ q,l.length = q:=⟨_,rfl⟩
 rw [hln] at HA
 have hfm:=field_m
 unfold stV at HC HA ⊢
 clear hl bx hw0 h h0 hn hok hlk hL hln
 have D : L = [] ∨ (∃ y t,L = y :: t ∧ m = true) ∨ (∃ y t,L = y :: t ∧ m = false):=by
  cases L with
  | nil=>exact .inl rfl
  | cons y t=>cases m <;> simp
 rcases D with rfl|⟨y,t,rfl,rfl⟩|⟨y,t,rfl,rfl⟩
 ·have HR : Hid (mainO (l,m) = (0,false)):=by show _ = _;rw [HMn.out];cases m <;> rfl
  go_enter Try.func33,Try.ntmps33
  go_upto_region 1 with fail
  rw [← HW0.out]
  go_wp2_with (go_at_call 38;go_loud (refine HC.out.mono ?_;rintro e w1 ⟨v1,rfl,ho,hb⟩;obtain ⟨a1,c1,h1⟩:=own_form ho;subst h1;have HB1:=hid hb;clear ho hb b0 b1))
  go_ret2
  exact ⟨by rw [HR.out];rfl,belows HB0.out HB1.out HB0.out.size⟩
 ·have HR : Hid (mainO (l,true) = (0,false)):=rfl
  have hne : ((t.length : Int) + 1 == 0) = false:=by simp;omega
  go_enter Try.func33,Try.ntmps33
  go_upto_region 1 with fail
  rw [← HW0.out]
  go_wp2_with (first
   | (go_at_call 38;go_loud (refine HC.out.mono ?_;rintro e w1 ⟨v1,rfl,ho,hb⟩;obtain ⟨a1,c1,h1⟩:=own_form ho;subst h1;have HB1:=hid hb;have c0 : w1.cell? ⟨w.heap.size,0,none⟩ = some (.int .i64 s.1):=(HBx.out.below hb).cell 0;have c2 : w1.cell? ⟨w.heap.size,1,none⟩ = some (.int .i64 s.2):=(HBx.out.below hb).cell 1;clear ho hb b0 b1))
   | (go_at_call 58;go_loud (refine (HA.out _ HB1.out).mono ?_;rintro e w2 ⟨⟨a,b,rfl⟩,hb⟩;have HB2:=hid (belows HB1.out hb HB1.out.size);clear hb)))
  go_ret2
  exact ⟨by rw [HR.out];rfl,belows HB0.out HB2.out HB0.out.size⟩
 ·have HR : Hid (mainO (l,false) = (y.1,true)):=HMn.out
  have hne : ((t.length : Int) + 1 == 0) = false:=by simp;omega
  have hlt : (0 : Int) < (t.length : Int) + 1:=by omega
  go_enter Try.func33,Try.ntmps33
  go_upto_region 1 with fail
  rw [← HW0.out]
  go_wp2_with (first
   | (go_at_call 38;go_loud (refine HC.out.mono ?_;rintro e w1 ⟨v1,rfl,ho,hb⟩;have HO:=hid ho;obtain ⟨g,cap,h1,-,hg,hgc⟩:=row_at evL_len (L:=y :: t) (k:=0) (x:=y) ho rfl;subst h1;have HB1:=hid hb;have c0 : w1.cell? ⟨w.heap.size,0,none⟩ = some (.int .i64 s.1):=(HBx.out.below hb).cell 0;have c2 : w1.cell? ⟨w.heap.size,1,none⟩ = some (.int .i64 s.2):=(HBx.out.below hb).cell 1;have d0 : w1.cell? ⟨g,0,none⟩ = some (.int .i64 y.1):=(by (have h5:=(hgc 0 (by omega)).1);(rw [Nat.zero_mul,Nat.zero_add] at h5);exact h5);clear ho hb b0 b1 hgc))
   | (go_at_call 58;go_loud (refine (HA.out _ HB1.out).mono ?_;rintro e w2 ⟨⟨a,b,rfl⟩,hb⟩;have HB2:=hid (belows HB1.out hb HB1.out.size);have d1 : w2.cell? ⟨g,0,none⟩ = some (.int .i64 y.1):=(hb.cell (p:=⟨g,0,none⟩) hg).trans d0;clear hb d0)))
  go_ret2
  exact ⟨by rw [HR.out];rfl,belows HB0.out HB2.out HB0.out.size⟩
end Go.Proofs.Ytfphiomhlhpphaa
namespace Go.Proofs.Ytfphiomhlhpphaa
open Go Go.RowKit
open Pf (Site Sn ix addk alt keys)
set_option maxRecDepth 100000
set_option maxHeartbeats 4000000
def hotP (least : Int) (x : Sn) : Bool:=decide (1 ≤ x.2) && decide (least ≤ x.2)
structure HoI (w : World) (E : List Sn) (least : Int) (o : List Sn) (ov : Value) (i : Nat) (W : World) : Prop where
 ow : W.ownsRow w.heap.size 95 2 ov o.length (o.flatMap evL)
 eq : o = ((E.take i).filter (hotP least)).foldl Pf.ins []
 ln : o.length ≤ i
 bel : Below w.heap.size w W
theorem HoI.below {w : World} {E o : List Sn} {least : Int} {ov : Value} {i : Nat} {W X : World} (h : HoI w E least o ov i W) (hb : Below W.heap.size W X) : HoI w E least o ov i X :=
 ⟨Kit.owns_below h.ow hb (Nat.le_refl _),h.eq,h.ln,belows h.bel hb h.bel.size⟩
theorem ho_skip {E o : List Sn} {least : Int} {i : Nat} {x : Sn} (h : o = ((E.take i).filter (hotP least)).foldl Pf.ins []) (hx : E[i]? = some x) (hp : hotP least x = false) : o = ((E.take (i + 1)).filter (hotP least)).foldl Pf.ins []:=by
 rw [List.take_add_one,hx,List.filter_append]
 simp only [Option.toList,List.filter_cons,hp,Bool.false_eq_true,if_false,List.filter_nil,List.append_nil]
 exact h
theorem ho_step {E o : List Sn} {least : Int} {i : Nat} {x : Sn} (h : o = ((E.take i).filter (hotP least)).foldl Pf.ins []) (hx : E[i]? = some x) (hp : hotP least x = true) : Pf.ins o x = ((E.take (i + 1)).filter (hotP least)).foldl Pf.ins []:=by
 rw [List.take_add_one,hx,List.filter_append]
 simp only [Option.toList,List.filter_cons,hp,if_true,List.filter_nil]
 rw [List.foldl_append,← h]
 rfl
def intV (y : Sn) : List Value:=[.int .i64 y.1]
theorem rHot_any {w : World} {base : Nat} {r : PR} (h : RefR w base r) (hn : r.E.length ≤ 2932031007340) (least : Int) : Calls Try.prog 39 #[.pointer (some ⟨r.pb,0,none⟩),.int .i64 least] w fun e w'=>∃ v,e = .returned v ∧ w'.ownsRow w.heap.size 3 1 v (Pf.srt (r.E.filter (hotP least))).length ((Pf.srt (r.E.filter (hotP least))).flatMap intV) ∧ Below w.heap.size w w':=by
 obtain ⟨i0,hi0,hz0,hz1,hzb⟩:=info_parts infoEn
 obtain ⟨ii,hii,hiz0,hiz1,hizb⟩:=info_parts infoI
 have HR:=hid (fun X (b : Below w.heap.size w X)=>h.below b)
 obtain ⟨ea,ec,hev⟩:=own_form h.er
 obtain ⟨n,hnn⟩ : ∃ n,r.E.length = n:=⟨_,rfl⟩
 have HN:=hid hnn
 rw [hnn] at hev hn
 have HEv:=hid hev
 have hpb:=h.box.sz
 clear hev hnn h
 go_enter Try.func39,Try.ntmps39
 go_wp2
 have HI0 : Hid (HoI w r.E least [] (.slice none 0 0) 0 w):=⟨⟨rfl,.inl ⟨rfl,rfl⟩⟩,rfl,Nat.le_refl _,Below.refl _ _⟩
 go_loopw [5,6] (fun ov q wr=>∃ (i : Nat) (o : List Sn),q = .int .i64 (i : Int) ∧ i ≤ n ∧ Hid (HoI w r.E least o ov i wr)) (fun _ q _=>n - (intOf q).toNat)
 case atStart=>exact ⟨0,[],rfl,Nat.zero_le _,HI0⟩
 case round =>
  clear HI0
  obtain ⟨i,o,rfl,hi,HI⟩:=hrel
  obtain ⟨wz,hwz⟩ : ∃ wz,wz = wr:=⟨_,rfl⟩
  rw [← hwz] at HI ⊢
  clear hwz
  have hRz:=HR.out wz HI.out.bel
  have z0 : wz.cell? ⟨r.pb,0,none⟩ = some r.ev:=hRz.cells.1
  rw [HEv.out] at z0
  obtain ⟨oa,oc,hov⟩:=own_form HI.out.ow
  by_cases hlt : i < n
  ·obtain ⟨x,hx⟩ : ∃ x,r.E[i]? = some x:=⟨_,List.getElem?_eq_getElem (by rw [HN.out];exact hlt)⟩
   obtain ⟨g0,cap0,hv0,-,hg0,hc0⟩:=row_at evL_len hRz.er hx
   rw [HEv.out] at hv0
   obtain ⟨e1,-,e2⟩:=Value.slice.inj hv0
   subst e1 e2
   have y0 : wz.cell? ⟨g0,i * 2,none⟩ = some (.int .i64 x.1):=(hc0 0 (by omega)).1
   have y1 : wz.cell? ⟨g0,i * 2 + 1,none⟩ = some (.int .i64 x.2):=(hc0 1 (by omega)).1
   have hin : (i : Int) < (n : Int):=by omega
   have HX:=hid hx
   obtain ⟨wo,hwo⟩ : ∃ wo,wo = wz.alloc (.cells #[.int .i64 x.1,.int .i64 x.2] 95):=⟨_,rfl⟩
   have hbo : Below wz.heap.size wz wo:=by rw [hwo];exact (Below.refl _ _).alloc (Nat.le_refl _) _
   have bxe : BX wo wz.heap.size #[.int .i64 x.1,.int .i64 x.2] 95:=by rw [hwo];exact BX.new wz _ _
   have HBe:=hid bxe
   have HIo:=hid (HI.out.below hbo)
   have q0 : wo.cell? ⟨wz.heap.size,0,none⟩ = some (.int .i64 x.1):=bxe.cell 0
   have q1 : wo.cell? ⟨wz.heap.size,1,none⟩ = some (.int .i64 x.2):=bxe.cell 1
   have HWo:=hid hwo
   have HZ:=hid hbo
   have HSk:=hid (fun hp=>ho_skip (least:=least) HI.out.eq hx hp)
   have HSt:=hid (fun hp=>ho_step (least:=least) HI.out.eq hx hp)
   have HHp : Hid (hotP least x = (decide (1 ≤ x.2) && decide (least ≤ x.2))):=rfl
   subst hov
   clear hx hc0 hv0 hbo bxe hwo hRz
   go_upto_region 6 with fail
   rw [← HWo.out]
   have D : decide (x.2 < 1) = true ∨ (decide (x.2 < 1) = false ∧ decide (x.2 < least) = true) ∨ (decide (x.2 < 1) = false ∧ decide (x.2 < least) = false):=by
    cases decide (x.2 < 1) <;> cases decide (x.2 < least) <;> simp
   rcases D with c1|⟨c1,c2⟩|⟨c1,c2⟩
   ·have HE : Hid (hotP least x = false):=by
     show _ = _
     rw [HHp.out,show decide (1 ≤ x.2) = false by simp at c1 ⊢;omega]
     rfl
    go_wp2
    go_roundw
    case rel=>exact ⟨i + 1,o,by go_num,by omega,⟨HIo.out.ow,HSk.out HE.out,Nat.le_succ_of_le HIo.out.ln,HIo.out.bel⟩⟩
    case measure=>simp [intOf];omega
   ·have HE : Hid (hotP least x = false):=by
     show _ = _
     rw [HHp.out,show decide (least ≤ x.2) = false by simp at c2 ⊢;omega,Bool.and_false]
    go_wp2
    go_roundw
    case rel=>exact ⟨i + 1,o,by go_num,by omega,⟨HIo.out.ow,HSk.out HE.out,Nat.le_succ_of_le HIo.out.ln,HIo.out.bel⟩⟩
    case measure=>simp [intOf];omega
   ·have HE : Hid (hotP least x = true):=by
     show _ = _
     rw [HHp.out,show decide (1 ≤ x.2) = true by simp at c1 ⊢;omega,show decide (least ≤ x.2) = true by simp at c2 ⊢;omega]
     rfl
    have HSt:=hid (HSt.out HE.out)
    have HL:=hid HIo.out.ln
    clear y0 y1 z0 hlt
    go_upto_block 2 with fail
    clear c1 c2
    go_cut [8] (fun q wx=>q = .int .i64 (Pf.pos o x : Nat) ∧ Hid (Below wo.heap.size wo wx))
    case first =>
     go_wp2
     go_loopw [8] (fun q wr2=>∃ k : Nat,q = .int .i64 (k : Int) ∧ Hid (k ≤ Pf.pos o x) ∧ Hid (Below wo.heap.size wo wr2)) (fun q _=>o.length - (intOf q).toNat)
     case atStart=>exact ⟨0,rfl,Nat.zero_le _,Below.refl _ _⟩
     case round =>
      obtain ⟨k,rfl,HK,HW⟩:=hrel
      have hoi:=HL.out
      have HPl:=hid (Pf.pos_le o x)
      have q0 : wr.cell? ⟨wz.heap.size,0,none⟩ = some (.int .i64 x.1):=(HBe.out.below HW.out).cell 0
      have q1 : wr.cell? ⟨wz.heap.size,1,none⟩ = some (.int .i64 x.2):=(HBe.out.below HW.out).cell 1
      by_cases hk : k < o.length
      ·obtain ⟨y,hy⟩ : ∃ y,o[k]? = some y:=⟨_,List.getElem?_eq_getElem hk⟩
       obtain ⟨g,cap,hg,-,hgl,hgc⟩:=row_at evL_len (HIo.out.below HW.out).ow hy
       obtain ⟨e1,-,e2⟩:=Value.slice.inj hg
       subst e1 e2
       have y0 : wr.cell? ⟨g,k * 2,none⟩ = some (.int .i64 y.1):=(hgc 0 (by omega)).1
       have y1 : wr.cell? ⟨g,k * 2 + 1,none⟩ = some (.int .i64 y.2):=(hgc 1 (by omega)).1
       have hki : (k : Int) < (o.length : Int):=by omega
       have hdk : decide ((k : Int) < (o.length : Int)) = true:=by simpa using hk
       have HY:=hid (fun b=>Pf.pos_step (l:=o) (x:=x) HK.out hy b)
       have HT:=hid (fun b=>Pf.pos_at (l:=o) (x:=x) HK.out hy b)
       have HBf : Hid (Pf.bef y x = (decide (x.2 < y.2) || (decide (y.2 = x.2) && decide (y.1 < x.1)))):=rfl
       clear hgc hg hy
       have D : decide (x.2 < y.2) = true ∨ (decide (x.2 < y.2) = false ∧ (y.2 == x.2) = true ∧ decide (y.1 < x.1) = true) ∨ (decide (x.2 < y.2) = false ∧ (y.2 == x.2) = true ∧ decide (y.1 < x.1) = false) ∨ (decide (x.2 < y.2) = false ∧ (y.2 == x.2) = false):=by
        cases decide (x.2 < y.2) <;> cases (y.2 == x.2) <;> cases decide (y.1 < x.1) <;> simp
       have EQ : decide (y.2 = x.2) = (y.2 == x.2):=by rw [Bool.eq_iff_iff];simp
       rw [EQ] at HBf
       clear EQ
       rcases D with c1|⟨c1,c2,c3⟩|⟨c1,c2,c3⟩|⟨c1,c2⟩
       ·have HB : Hid (k + 1 ≤ Pf.pos o x):=HY.out (by rw [HBf.out,c1];rfl)
        go_wp2
        go_quiet (fail)
        go_wp2
        go_roundw
        case rel=>exact ⟨k + 1,by go_num,HB,belows_drewN HW.out nq⟩
        case measure=>simp [intOf];omega
       ·have HB : Hid (k + 1 ≤ Pf.pos o x):=HY.out (by rw [HBf.out,c1,c2,c3];rfl)
        go_wp2
        go_quiet (fail)
        go_wp2
        go_roundw
        case rel=>exact ⟨k + 1,by go_num,HB,belows_drewN HW.out nq⟩
        case measure=>simp [intOf];omega
       ·have HB : Hid (Pf.pos o x = k):=HT.out (by rw [HBf.out,c1,c2,c3];simp)
        go_wp2
        go_quiet (fail)
        go_wp2
        go_meet
        exact ⟨by rw [HB.out],belows_drewN HW.out nq⟩
       ·have HB : Hid (Pf.pos o x = k):=HT.out (by rw [HBf.out,c1,c2];simp)
        go_wp2
        go_quiet (fail)
        go_wp2
        go_meet
        exact ⟨by rw [HB.out],belows_drewN HW.out nq⟩
      ·have hdk : decide ((k : Int) < (o.length : Int)) = false:=by simp;omega
       have HB : Hid (Pf.pos o x = k):=by
        have h1:=HK.out
        have h2:=HPl.out
        show _ = _
        omega
       have hki : ¬ (k : Int) < (o.length : Int):=by omega
       go_wp2
       go_quiet (fail)
       go_wp2
       go_meet
       exact ⟨by rw [HB.out],belows_drewN HW.out nq⟩
    case rest =>
     obtain ⟨rfl,HW⟩:=hcut
     obtain ⟨W,hW⟩ : ∃ W,W = wc:=⟨_,rfl⟩
     rw [← hW] at HW ⊢
     clear hW q0 q1
     have HIW:=hid (HIo.out.below HW.out)
     have hpl:=Pf.pos_le o x
     obtain ⟨p,hp⟩ : ∃ p,Pf.pos o x = p:=⟨_,rfl⟩
     have HP:=hid hp
     rw [hp] at hpl ⊢
     have how:=HIW.out.ow
     have hol:=HL.out
     have hpi : (p : Int) ≤ (o.length : Int):=by omega
     have HBw:=hid (HBe.out.below HW.out)
     have hbw:=HBw.out.sz
     have HSz:=hid (show w.heap.size ≤ W.heap.size from HIW.out.bel.size)
     clear hp
     rcases how.2 with ⟨h1,h2⟩|⟨g,cap,cur,h1,hgb,hh,hc1,hc2,hc3,ht⟩
     ·obtain ⟨e1,-,e2⟩:=Value.slice.inj h1
      subst e1 e2
      obtain rfl : o = []:=List.eq_nil_of_length_eq_zero h2
      obtain rfl : p = 0:=by simpa using hpl
      have HS1 : Hid (Kit.IsS 2 W (.slice none 0 0) 0 []):=⟨rfl,Nat.zero_le _,.inl ⟨rfl,_,_,rfl⟩⟩
      have HS2:=hid (fun X (_ : Below W.heap.size W X)=>(⟨rfl,Nat.zero_le _,.inl ⟨rfl,_,_,rfl⟩⟩ : Kit.IsS 2 X (.slice none 0 0) 0 []))
      go_upto_region 11 with (at_builtin;go_loud (refine Kit.wpList_rows rfl (.const (.slice none 0 0)) (.tmp 75) 64 rfl W.heap.size 95 i0 _ 2 16 Try.underlying64 hi0 hz0 hz1 hzb rfl (by decide) (.slice none 0 0) 0 [] rfl ⟨rfl,.inl ⟨rfl,rfl⟩⟩ (Nat.le_refl _) (.slice none 0 0) 0 [] rfl HS1.out (fun u hu=>by cases hu) (by unfold maxLen;omega) (by omega) ?_;intro v9 W9 ho9 hg9 _;rw [Nat.zero_add,List.nil_append] at ho9;have hb9 : Below W.heap.size W W9:=Kit.below_grown (Below.refl _ _) hg9 (Nat.le_refl _) (fun k e=>by simp [Value.ownBlock] at e);have HO9:=hid (fun X (b : Below W9.heap.size W9 X)=>Kit.owns_below ho9 b (Nat.le_refl _));have HB9:=hid hb9;obtain ⟨la,lc,h9⟩:=own_form ho9;subst h9;clear ho9 hg9 hb9))
      have q0 : W9.cell? ⟨wz.heap.size,0,none⟩ = some (.int .i64 x.1):=(HBw.out.below HB9.out).cell 0
      have q1 : W9.cell? ⟨wz.heap.size,1,none⟩ = some (.int .i64 x.2):=(HBw.out.below HB9.out).cell 1
      have hz9:=HB9.out.size
      go_region_law (first
       | (refine Kit.step_append_own rfl (.tmp 77) (.tmp 79) 64 rfl W.heap.size 95 i0 _ 2 16 Try.underlying64 hi0 hz0 hz1 hzb rfl (by decide) (.slice la 0 lc) 0 _ rfl (HO9.out _ BLw) ⟨W9.heap.size,0,none⟩ 1 1 [.int .i64 x.1,.int .i64 x.2] rfl rfl (news_of _ _ _) (by intro u hu;simp at hu;rcases hu with rfl|rfl <;> rfl) (by unfold maxLen;omega) (by omega) (by first|omega|(simp;omega)) ?_;intro v10 W10 ho10 hg10 _;go_loud (have hb10 : Below W.heap.size W W10:=Kit.below_grown (belows HB9.out BLw HB9.out.size) hg10 (by first|omega|(simp;omega)) (fun b e=>Kit.own_base (HO9.out W9 (Below.refl _ _)) b e);have HO10:=hid (fun X (b : Below W10.heap.size W10 X)=>Kit.owns_below ho10 b (Nat.le_refl _));have HB10:=hid hb10;have hz10:=hb10.size;obtain ⟨a10,c10,h10⟩:=own_form ho10;subst h10;clear ho10 hg10 hb10))
       | (refine Kit.step_rows rfl (.tmp 80) (.tmp 83) 64 rfl W.heap.size 95 i0 _ 2 16 Try.underlying64 hi0 hz0 hz1 hzb rfl (by decide) (.slice a10 1 c10) 1 _ rfl (HO10.out _ (by first|exact Below.refl _ _|exact Below.drew (Below.refl _ _))) hz10 (.slice none 0 0) 0 [] rfl (HS2.out _ (by first|exact HB10.out|exact Below.drew HB10.out)) (fun u hu=>by cases hu) (by unfold maxLen;omega) (by omega) ?_;intro v11 W11 ho11 hg11 _;go_loud (have hb11 : Below W.heap.size W W11:=Kit.below_grown HB10.out hg11 hz10 (fun b e=>Kit.own_base (HO10.out W10 (Below.refl _ _)) b e);obtain ⟨a11,c11,h11⟩:=own_form ho11;subst h11;have HCl : Hid (HoI w r.E least (Pf.ins [] x) (.slice a11 1 c11) (i + 1) W11):=(⟨Kit.owns_mono ho11 HSz.out,HSt.out,(by simp [Pf.ins,Pf.pos]),belows HIW.out.bel hb11 HIW.out.bel.size⟩);clear ho11 hg11 hb11)))
      all_goals
       go_wp2
       go_roundw
       case rel=>exact ⟨i + 1,Pf.ins [] x,by go_num,by omega,HCl⟩
       case measure=>simp [intOf];omega
     ·obtain ⟨e1,-,e2⟩:=Value.slice.inj h1
      subst e1 e2
      have hic : (o.length : Int) ≤ (oc : Int):=by omega
      have HS1:=hid (isS_take evL_len (p:=p) how (by omega) (by omega))
      have HS2:=hid (fun X (b : Below W.heap.size W X)=>isS_drop2 evL_len (p:=p) (Kit.owns_below how b (Nat.le_refl _)) (by omega) (by omega))
      have hgw : g < W.heap.size:=(Array.getElem?_eq_some_iff.1 hh).1
      clear hh ht hc2 hc3
      go_upto_region 11 with (at_builtin;go_loud (refine Kit.wpList_rows rfl (.const (.slice none 0 0)) (.tmp 75) 64 rfl W.heap.size 95 i0 _ 2 16 Try.underlying64 hi0 hz0 hz1 hzb rfl (by decide) (.slice none 0 0) 0 [] rfl ⟨rfl,.inl ⟨rfl,rfl⟩⟩ (Nat.le_refl _) (.slice (some ⟨g,0,none⟩) p oc) p ((o.take p).flatMap evL) rfl HS1.out (ones_ev _) (by unfold maxLen;omega) (by omega) ?_;intro v9 W9 ho9 hg9 _;rw [Nat.zero_add,List.nil_append] at ho9;have hb9 : Below W.heap.size W W9:=Kit.below_grown (Below.refl _ _) hg9 (Nat.le_refl _) (fun k e=>by simp [Value.ownBlock] at e);have HO9:=hid (fun X (b : Below W9.heap.size W9 X)=>Kit.owns_below ho9 b (Nat.le_refl _));have HB9:=hid hb9;obtain ⟨la,lc,h9⟩:=own_form ho9;subst h9;clear ho9 hg9 hb9))
      have q0 : W9.cell? ⟨wz.heap.size,0,none⟩ = some (.int .i64 x.1):=(HBw.out.below HB9.out).cell 0
      have q1 : W9.cell? ⟨wz.heap.size,1,none⟩ = some (.int .i64 x.2):=(HBw.out.below HB9.out).cell 1
      have hz9:=HB9.out.size
      go_region_law (first
       | (refine Kit.step_append_own rfl (.tmp 77) (.tmp 79) 64 rfl W.heap.size 95 i0 _ 2 16 Try.underlying64 hi0 hz0 hz1 hzb rfl (by decide) (.slice la p lc) p _ rfl (HO9.out _ BLw) ⟨W9.heap.size,0,none⟩ 1 1 [.int .i64 x.1,.int .i64 x.2] rfl rfl (news_of _ _ _) (by intro u hu;simp at hu;rcases hu with rfl|rfl <;> rfl) (by unfold maxLen;omega) (by omega) (by first|omega|(simp;omega)) ?_;intro v10 W10 ho10 hg10 _;go_loud (have hb10 : Below W.heap.size W W10:=Kit.below_grown (belows HB9.out BLw HB9.out.size) hg10 (by first|omega|(simp;omega)) (fun b e=>Kit.own_base (HO9.out W9 (Below.refl _ _)) b e);have HO10:=hid (fun X (b : Below W10.heap.size W10 X)=>Kit.owns_below ho10 b (Nat.le_refl _));have HB10:=hid hb10;have hz10:=hb10.size;obtain ⟨a10,c10,h10⟩:=own_form ho10;subst h10;clear ho10 hg10 hb10))
       | (refine Kit.step_rows rfl (.tmp 80) (.tmp 83) 64 rfl W.heap.size 95 i0 _ 2 16 Try.underlying64 hi0 hz0 hz1 hzb rfl (by decide) (.slice a10 (p + 1) c10) (p + 1) _ rfl (HO10.out _ (by first|exact Below.refl _ _|exact Below.drew (Below.refl _ _))) hz10 (.slice (if oc = p then some ⟨g,0,none⟩ else some ⟨g,p * 2,none⟩) (o.length - p) (oc - p)) (o.length - p) ((o.drop p).flatMap evL) rfl (HS2.out _ (by first|exact HB10.out|exact Below.drew HB10.out)) (ones_ev _) (by unfold maxLen;omega) (by omega) ?_;intro v11 W11 ho11 hg11 _;go_loud (have hb11 : Below W.heap.size W W11:=Kit.below_grown HB10.out hg11 hz10 (fun b e=>Kit.own_base (HO10.out W10 (Below.refl _ _)) b e);obtain ⟨a11,c11,h11⟩:=own_form ho11;subst h11;have HCl : Hid (HoI w r.E least (Pf.ins o x) (.slice a11 (p + 1 + (o.length - p)) c11) (i + 1) W11):=(by (refine ⟨?_,HSt.out,(by rw [Pf.ins_len];omega),belows HIW.out.bel hb11 HIW.out.bel.size⟩);(rw [Pf.ins_len,show o.length + 1 = p + 1 + (o.length - p) by omega]);(unfold Pf.ins);(rw [HP.out,List.flatMap_append,List.flatMap_append]);exact Kit.owns_mono ho11 HSz.out);clear ho11 hg11 hb11)))
      all_goals
       go_wp2
       go_roundw
       case rel=>exact ⟨i + 1,Pf.ins o x,by go_num,by omega,HCl⟩
       case measure=>simp [intOf];omega
  ·obtain rfl : i = n:=by omega
   have HE : Hid (o = Pf.srt (r.E.filter (hotP least))):=by
    have:=HI.out.eq
    rw [List.take_of_length_le (by rw [HN.out];exact Nat.le_refl _)] at this
    exact this
   have hol:=HI.out.ln
   have HOw:=hid (fun X (b : Below wz.heap.size wz X)=>Kit.owns_below HI.out.ow b (Nat.le_refl _))
   subst hov
   have hnl : ¬ (i : Int) < (i : Int):=by omega
   go_wp2
   go_loopw [10,11] (fun ov q wr=>∃ j : Nat,q = .int .i64 (j : Int) ∧ j ≤ o.length ∧ Hid (wr.ownsRow wz.heap.size 3 1 ov j ((o.take j).flatMap intV) ∧ Below wz.heap.size wz wr)) (fun _ q _=>o.length - (intOf q).toNat)
   case atStart=>exact ⟨0,rfl,Nat.zero_le _,⟨rfl,.inl ⟨rfl,rfl⟩⟩,Below.refl _ _⟩
   case round =>
    obtain ⟨j,rfl,hj,HJ⟩:=hrel
    obtain ⟨va,vc,hvv⟩:=own_form HJ.out.1
    subst hvv
    have hsz:=HJ.out.2.size
    have hws : w.heap.size ≤ wz.heap.size:=HI.out.bel.size
    by_cases hlt2 : j < o.length
    ·obtain ⟨x,hx⟩ : ∃ x,o[j]? = some x:=⟨_,List.getElem?_eq_getElem hlt2⟩
     obtain ⟨g,cap,hg,-,hgl,hgc⟩:=row_at evL_len (HOw.out wr HJ.out.2) hx
     obtain ⟨e1,-,e2⟩:=Value.slice.inj hg
     subst e1 e2
     have y0 : wr.cell? ⟨g,j * 2,none⟩ = some (.int .i64 x.1):=(hgc 0 (by omega)).1
     have hji : (j : Int) < (o.length : Int):=by omega
     have HTk : Hid ((o.take (j + 1)).flatMap intV = (o.take j).flatMap intV ++ [.int .i64 x.1]):=by
      show _ = _
      rw [List.take_add_one,hx,List.flatMap_append]
      rfl
     clear hgc hg hx
     go_wp2_with (at_builtin;go_loud (refine wpList_append_own_at _ rfl (.tmp 91) (.tmp 97) 71 rfl wz.heap.size 3 ii _ 1 8 Try.underlying71 hii hiz0 hiz1 hizb rfl (by decide) (.slice va j vc) j _ rfl (Kit.owns_below HJ.out.1 BLw (Nat.le_refl _)) ⟨wr.heap.size,0,none⟩ 1 1 [.int .i64 x.1] rfl rfl (news_of wr [.int .i64 x.1] _) (by intro u hu;simp at hu;subst hu;rfl) (by unfold maxLen;omega) (by omega) (by simp only [World.size_alloc];omega) ?_;intro v' w3 ho3 hg3 _ _;have hb3 : Below wz.heap.size wz w3:=Kit.below_grown (belows HJ.out.2 ((Below.refl _ _).alloc (Nat.le_refl _) _) HJ.out.2.size) hg3 (by simp only [World.size_alloc];omega) (fun b e=>Kit.own_base HJ.out.1 b e);rw [← HTk.out] at ho3;obtain ⟨b3,p3,h3⟩:=own_form ho3;subst h3;have HJ3:=hid (And.intro ho3 hb3);clear ho3 hg3 hb3))
     go_roundw
     case rel=>exact ⟨j + 1,by go_num,by omega,HJ3⟩
     case measure=>simp [intOf];omega
    ·obtain rfl : j = o.length:=by omega
     go_wp2
     go_ret
     refine ⟨_,rfl,?_,belows HI.out.bel HJ.out.2 HI.out.bel.size⟩
     have:=HJ.out.1
     rw [List.take_length] at this
     rw [← HE.out]
     exact Kit.owns_mono this hws
end Go.Proofs.Ytfphiomhlhpphaa
namespace Go.Proofs.Ytfphiomhlhpphaa
open Go Go.RowKit
open Pf (Site Sn ix addk alt keys)
set_option maxRecDepth 100000
set_option maxHeartbeats 4000000
def kpI (f : Int) (k : Int) : Bool:=!decide (k = f)
def kpS (f : Int) (s : Site) : Bool:=!decide (s.1 = f)
structure FoI (w : World) (base : Nat) (q : PR) (W : World) : Prop where
 rf : RefR W base q
 pb : q.pb = w.heap.size
 bel : Below w.heap.size w W
 fe : ∀ b,q.ev.ownBlock = some b → w.heap.size ≤ b
 fj : ∀ b,q.jv.ownBlock = some b → w.heap.size ≤ b
 fc : ∀ b,q.cv.ownBlock = some b → w.heap.size ≤ b
theorem FoI.below {w : World} {base : Nat} {q : PR} {W X : World} (h : FoI w base q W) (hb : Below W.heap.size W X) : FoI w base q X :=
 ⟨h.rf.below hb,h.pb,belows h.bel hb h.bel.size,h.fe,h.fj,h.fc⟩
theorem own1_below {w W X : World} {pb : Nat} {v : Value} (hb : Below w.heap.size w W) (hc : Chg (Own1 pb v) W X) (hp : w.heap.size ≤ pb) (hv : ∀ b,v.ownBlock = some b → w.heap.size ≤ b) : Below w.heap.size w X :=
 hb.trans (hc.to_below (fun k e=>by rcases e with rfl|e;exact hp;exact hv k e) hb.size)
theorem keep_yes {κ β : Type} {l : List (κ × β)} {p : κ → Bool} {i : Nat} {x : κ × β} (hx : l[i]? = some x) (hp : p x.1 = true) : (l.take (i + 1)).filter (fun x=>p x.1) = (l.take i).filter (fun x=>p x.1) ++ [x]:=by
 rw [List.take_add_one,hx,List.filter_append]
 simp [hp]
theorem keep_no {κ β : Type} {l : List (κ × β)} {p : κ → Bool} {i : Nat} {x : κ × β} (hx : l[i]? = some x) (hp : p x.1 = false) : (l.take (i + 1)).filter (fun x=>p x.1) = (l.take i).filter (fun x=>p x.1):=by
 rw [List.take_add_one,hx,List.filter_append]
 simp [hp]
theorem keep_len {α : Type} (l : List α) (i : Nat) (p : α → Bool) : ((l.take i).filter p).length ≤ i:=Nat.le_trans (List.length_filter_le _ _) (by rw [List.length_take];omega)
theorem move_box {w W : World} {base pb qb : Nat} {ev jv cv : Value} {E : List (Int × Int)} {J : List (Site × Int)} {C : List (Site × Ce)} {cs : Array Value} (h : RefR W base ⟨qb,ev,jv,cv,E,J,C⟩) (hb : Below w.heap.size w W) (hx : BX W pb cs 68) (fe : ∀ b,ev.ownBlock = some b → w.heap.size ≤ b) (fj : ∀ b,jv.ownBlock = some b → w.heap.size ≤ b) (fc : ∀ b,cv.ownBlock = some b → w.heap.size ≤ b) (hp : pb < w.heap.size) (hs : cs.size = 3:=by rfl) (hl : base ≤ pb:=by assumption) :
  RefR (((W.setCell ⟨pb,0,none⟩ ev).setCell ⟨pb,1,none⟩ jv).setCell ⟨pb,2,none⟩ cv) base ⟨pb,ev,jv,cv,E,J,C⟩ ∧ Chg (fun b=>b = pb) w (((W.setCell ⟨pb,0,none⟩ ev).setCell ⟨pb,1,none⟩ jv).setCell ⟨pb,2,none⟩ cv):=by
 have hS : Chg (fun b=>b = pb) W (((W.setCell ⟨pb,0,none⟩ ev).setCell ⟨pb,1,none⟩ jv).setCell ⟨pb,2,none⟩ cv):=(((Chg.refl (fun b=>b = pb) W).set (.inl rfl) _).set (.inl rfl) _).set (.inl rfl) _
 refine ⟨⟨?_,owns_chg h.er hS (fun k e e2=>?_),owns_chg h.jr hS (fun k e e2=>?_),owns_chg h.cr hS (fun k e e2=>?_),fun x hx2=>owns_chg (h.lr x hx2) hS (fun k e e2=>own_unlike_box (h.lr x hx2) hx (by decide) (e2 ▸ e)),hl⟩,Chg.trans' hS hb⟩
 ·have h3:=box_set (box_set (box_set hx 0 ev) 1 jv) 2 cv
  have e : ((cs.setIfInBounds 0 ev).setIfInBounds 1 jv).setIfInBounds 2 cv = #[ev,jv,cv]:=by
   obtain ⟨l⟩:=cs
   match l,hs with
   | [a,b,c],_=>rfl
  rw [e] at h3
  exact h3
 ·exact own_unlike_box h.er hx (by decide) (e2 ▸ e)
 ·exact own_unlike_box h.jr hx (by decide) (e2 ▸ e)
 ·exact own_unlike_box h.cr hx (by decide) (e2 ▸ e)
def FgPost (w : World) (base : Nat) (r : PR) (f : Int) (e : Ending) (w' : World) : Prop :=
 e = .returned (.tuple #[]) ∧ ∃ ev jv cv,RefR w' base ⟨r.pb,ev,jv,cv,r.E.filter (fun x=>kpI f x.1),r.J.filter (fun x=>kpS f x.1),r.C.filter (fun x=>kpS f x.1)⟩ ∧ Chg (fun b=>b = r.pb) w w' ∧ (∀ b,(ev.ownBlock = some b ∨ jv.ownBlock = some b ∨ cv.ownBlock = some b) → w.heap.size ≤ b)
theorem FgPost.is {w w' : World} {base : Nat} {r : PR} {f : Int} (ev jv cv : Value) (h : RefR w' base ⟨r.pb,ev,jv,cv,r.E.filter (fun x=>kpI f x.1),r.J.filter (fun x=>kpS f x.1),r.C.filter (fun x=>kpS f x.1)⟩) (hc : Chg (fun b=>b = r.pb) w w') (hf : ∀ b,(ev.ownBlock = some b ∨ jv.ownBlock = some b ∨ cv.ownBlock = some b) → w.heap.size ≤ b) : FgPost w base r f (.returned (.tuple #[])) w':=⟨rfl,ev,jv,cv,h,hc,hf⟩
theorem rForget_any {w : World} {base : Nat} {r : PR} (h : RefR w base r) (hE : r.E.length ≤ 2932031007340) (hJ : r.J.length ≤ 2932031007340) (hC : r.C.length ≤ 2932031007340) (f : Int) : Calls Try.prog 31 #[.pointer (some ⟨r.pb,0,none⟩),.int .i64 f] w (FgPost w base r f):=by
 obtain ⟨iE,hiE,hE0,hE1,hEb⟩:=info_parts infoEn
 obtain ⟨iJ,hiJ,hJ0,hJ1,hJb⟩:=info_parts infoJu
 obtain ⟨iC,hiC,hC0,hC1,hCb⟩:=info_parts infoCa
 have HN:=hid (rNew_any w)
 have HR:=hid (fun X (b : Below w.heap.size w X)=>h.below b)
 have hbase : base ≤ w.heap.size:=Nat.le_trans h.low (Nat.le_of_lt h.box.sz)
 have hpb:=h.box.sz
 have hlw:=h.low
 obtain ⟨ea,ec,hev⟩:=own_form h.er
 obtain ⟨ja,jc,hjv⟩:=own_form h.jr
 obtain ⟨ca,cc,hcv⟩:=own_form h.cr
 obtain ⟨nE,hnE⟩ : ∃ n,r.E.length = n:=⟨_,rfl⟩
 obtain ⟨nJ,hnJ⟩ : ∃ n,r.J.length = n:=⟨_,rfl⟩
 obtain ⟨nC,hnC⟩ : ∃ n,r.C.length = n:=⟨_,rfl⟩
 have HNE:=hid hnE
 have HNJ:=hid hnJ
 have HNC:=hid hnC
 rw [hnE] at hev hE
 rw [hnJ] at hjv hJ
 rw [hnC] at hcv hC
 have HVE:=hid hev
 have HVJ:=hid hjv
 have HVC:=hid hcv
 clear hev hjv hcv hnE hnJ hnC h
 go_enter Try.func31,Try.ntmps31
 go_upto_region 1 with (go_at_call 8;go_loud (refine HN.out.mono ?_;rintro e w1 ⟨rfl,h1,hb1⟩;have HF0 : Hid (FoI w base ⟨w.heap.size,.slice none 0 0,.slice none 0 0,.slice none 0 0,(r.E.take 0).filter (fun x=>kpI f x.1),[],[]⟩ w1):=(⟨⟨h1.box,⟨rfl,.inl ⟨rfl,rfl⟩⟩,⟨rfl,.inl ⟨rfl,rfl⟩⟩,⟨rfl,.inl ⟨rfl,rfl⟩⟩,(fun x hx=>by cases hx),hbase⟩,rfl,hb1,(fun b e=>by simp [Value.ownBlock] at e),(fun b e=>by simp [Value.ownBlock] at e),(fun b e=>by simp [Value.ownBlock] at e)⟩);clear h1 hb1))
 go_wp2
 go_loopw [5] (fun q wr=>∃ (i : Nat) (ev : Value),q = .int .i64 (i : Int) ∧ i ≤ nE ∧ Hid (FoI w base ⟨w.heap.size,ev,.slice none 0 0,.slice none 0 0,(r.E.take i).filter (fun x=>kpI f x.1),[],[]⟩ wr)) (fun q _=>nE - (intOf q).toNat)
 case atStart=>exact ⟨0,_,rfl,Nat.zero_le _,HF0⟩
 case round =>
  clear HF0
  obtain ⟨i,ev,rfl,hi,HF⟩:=hrel
  obtain ⟨wz,hwz⟩ : ∃ wz,wz = wr:=⟨_,rfl⟩
  rw [← hwz] at HF ⊢
  clear hwz
  have hRz:=HR.out wz HF.out.bel
  have hws:=HF.out.bel.size
  have hqz : w.heap.size < wz.heap.size:=HF.out.rf.box.sz
  have hpz : r.pb < wz.heap.size:=by omega
  have z0 : wz.cell? ⟨r.pb,0,none⟩ = some r.ev:=hRz.cells.1
  rw [HVE.out] at z0
  obtain ⟨qa,qc,hqv⟩:=own_form HF.out.rf.er
  dsimp only at hqv
  have q0 : wz.cell? ⟨w.heap.size,0,none⟩ = some ev:=HF.out.rf.cells.1
  have qf : wz.frozen? ⟨w.heap.size,0,none⟩ = false:=HF.out.rf.box.frozen 0
  by_cases hlt : i < nE
  ·obtain ⟨x,hx⟩ : ∃ x,r.E[i]? = some x:=⟨_,List.getElem?_eq_getElem (by rw [HNE.out];exact hlt)⟩
   obtain ⟨g,cap,hv,-,hg,hc⟩:=row_at evL_len hRz.er hx
   rw [HVE.out] at hv
   obtain ⟨e1,-,e2⟩:=Value.slice.inj hv
   subst e1 e2
   have d0 : wz.cell? ⟨g,i * 2,none⟩ = some (.int .i64 x.1):=(hc 0 (by omega)).1
   have d1 : wz.cell? ⟨g,i * 2 + 1,none⟩ = some (.int .i64 x.2):=(hc 1 (by omega)).1
   have hii : (i : Int) < (nE : Int):=by omega
   have hkl:=keep_len r.E i (fun x=>kpI f x.1)
   by_cases he : x.1 = f
   ·have HK:=hid (keep_no (p:=kpI f) hx (by simp [kpI,he]))
    have hd : (x.1 != f) = false:=by simp [he]
    clear hx hc hv he
    go_wp2
    go_roundw
    case rel=>exact ⟨i + 1,_,by go_num,by omega,by rw [HK.out];exact HF⟩
    case measure=>simp [intOf];omega
   ·have HK:=hid (keep_yes (p:=kpI f) hx (by simp [kpI,he]))
    have hd : (x.1 != f) = true:=by simp [he]
    obtain ⟨m,hm⟩ : ∃ m,((r.E.take i).filter (fun x=>kpI f x.1)).length = m:=⟨_,rfl⟩
    have HM:=hid hm
    rw [hm] at hqv hkl
    have HQV:=hid hqv
    rw [hqv] at q0
    have HOw:=hid (fun X (b : Below wz.heap.size wz X)=>Kit.owns_below HF.out.rf.er b (Nat.le_refl _))
    dsimp only at HOw
    rw [hm,hqv] at HOw
    clear hc hv he hm hqv hRz
    go_upto_region 5 with fail
    go_region_law (refine Kit.step_append_own rfl (.tmp 32) (.tmp 40) 64 rfl base 95 iE _ 2 16 Try.underlying64 hiE hE0 hE1 hEb rfl (by decide) (.slice qa m qc) m _ rfl (HOw.out _ BLw) ⟨wz.heap.size,0,none⟩ 1 1 [.int .i64 x.1,.int .i64 x.2] rfl rfl (news_of _ _ _) (by intro u hu;simp at hu;rcases hu with rfl|rfl <;> rfl) (by unfold maxLen;omega) (by omega) (by first|omega|(simp;omega)) ?_;intro v' w3 ho3 hg3 hk3;go_loud (have hcg : Chg (fun b=>ev.ownBlock = some b) wz w3:=Chg.grown (Chg.of_below BLw) hg3 (fun b e=>.inl (by rw [HQV.out];exact e));obtain ⟨y0,yf,hR,hC⟩:=HF.out.rf.setE (E':=(r.E.take (i + 1)).filter (fun x=>kpI f x.1)) (v':=v') hcg (by (rw [HK.out,List.length_append,List.flatMap_append,HM.out]);exact ho3);have hfv : ∀ b,v'.ownBlock = some b → w.heap.size ≤ b:=(fun b e=>by (rcases hk3 with e2|e2);(·rw [e2] at e;exact HF.out.fe b (by rw [HQV.out];exact e));(·rw [e2,Option.some.injEq] at e;rw [← e];exact Nat.le_trans hws (by simp)));have HF3 : Hid (FoI w base ⟨w.heap.size,v',.slice none 0 0,.slice none 0 0,(r.E.take (i + 1)).filter (fun x=>kpI f x.1),[],[]⟩ (w3.setCell ⟨w.heap.size,0,none⟩ v')):=(⟨hR,rfl,own1_below HF.out.bel hC (Nat.le_refl _) HF.out.fe,hfv,HF.out.fj,HF.out.fc⟩);have hw3:=hcg.size;have y1 : w3.cell? ⟨w.heap.size,0,none⟩ = some (.slice qa m qc):=(by rw [← HQV.out];exact y0);clear q0 z0;obtain ⟨b2,p2,h2⟩:=own_form ho3;subst h2;clear ho3 hg3 hk3 hcg hR hC hfv y0))
    all_goals
     go_wp2
     go_roundw
     case rel=>exact ⟨i + 1,_,by go_num,by omega,HF3⟩
     case measure=>simp [intOf];omega
  ·obtain rfl : i = nE:=by omega
   have hnl : ¬ (i : Int) < (i : Int):=by omega
   have HT : Hid ((r.E.take i).filter (fun x=>kpI f x.1) = r.E.filter (fun x=>kpI f x.1)):=by
    show _ = _
    rw [List.take_of_length_le (by rw [HNE.out];exact Nat.le_refl _)]
   clear hqv q0 qf hRz
   have HF1 : Hid (FoI w base ⟨w.heap.size,ev,.slice none 0 0,.slice none 0 0,r.E.filter (fun x=>kpI f x.1),[],[]⟩ wz):=by
    rw [← HT.out]
    exact HF
   clear HF HT
   go_wp2
   clear z0
   go_loopw [6] (fun q wr=>∃ (i : Nat) (jv : Value),q = .int .i64 (i : Int) ∧ i ≤ nJ ∧ Hid (FoI w base ⟨w.heap.size,ev,jv,.slice none 0 0,r.E.filter (fun x=>kpI f x.1),(r.J.take i).filter (fun x=>kpS f x.1),[]⟩ wr)) (fun q _=>nJ - (intOf q).toNat)
   case atStart=>exact ⟨0,_,rfl,Nat.zero_le _,HF1⟩
   case round =>
    clear HF1
    obtain ⟨i,jv,rfl,hi,HF⟩:=hrel
    obtain ⟨wz,hwz⟩ : ∃ wz,wz = wr:=⟨_,rfl⟩
    rw [← hwz] at HF ⊢
    clear hwz
    have hRz:=HR.out wz HF.out.bel
    have hws:=HF.out.bel.size
    have hqz : w.heap.size < wz.heap.size:=HF.out.rf.box.sz
    have hpz : r.pb < wz.heap.size:=by omega
    have z0 : wz.cell? ⟨r.pb,1,none⟩ = some r.jv:=hRz.cells.2.1
    rw [HVJ.out] at z0
    obtain ⟨qa,qc,hqv⟩:=own_form HF.out.rf.jr
    dsimp only at hqv
    have q0 : wz.cell? ⟨w.heap.size,1,none⟩ = some jv:=HF.out.rf.cells.2.1
    have qf : wz.frozen? ⟨w.heap.size,1,none⟩ = false:=HF.out.rf.box.frozen 1
    by_cases hlt : i < nJ
    ·obtain ⟨x,hx⟩ : ∃ x,r.J[i]? = some x:=⟨_,List.getElem?_eq_getElem (by rw [HNJ.out];exact hlt)⟩
     obtain ⟨g,cap,hv,-,hg,hc⟩:=row_at jvL_len hRz.jr hx
     rw [HVJ.out] at hv
     obtain ⟨e1,-,e2⟩:=Value.slice.inj hv
     subst e1 e2
     have d0 : wz.cell? ⟨g,i * 3,none⟩ = some (.int .i64 x.1.1):=(hc 0 (by omega)).1
     have d1 : wz.cell? ⟨g,i * 3 + 1,none⟩ = some (.int .i64 x.1.2):=(hc 1 (by omega)).1
     have d2 : wz.cell? ⟨g,i * 3 + 2,none⟩ = some (.int .i64 x.2):=(hc 2 (by omega)).1
     have hii : (i : Int) < (nJ : Int):=by omega
     have hkl:=keep_len r.J i (fun x=>kpS f x.1)
     by_cases he : x.1.1 = f
     ·have HK:=hid (keep_no (p:=kpS f) hx (by simp [kpS,he]))
      have hd : (x.1.1 != f) = false:=by simp [he]
      clear hx hc hv he
      go_wp2
      go_roundw
      case rel=>exact ⟨i + 1,_,by go_num,by omega,by rw [HK.out];exact HF⟩
      case measure=>simp [intOf];omega
     ·have HK:=hid (keep_yes (p:=kpS f) hx (by simp [kpS,he]))
      have hd : (x.1.1 != f) = true:=by simp [he]
      obtain ⟨m,hm⟩ : ∃ m,((r.J.take i).filter (fun x=>kpS f x.1)).length = m:=⟨_,rfl⟩
      have HM:=hid hm
      rw [hm] at hqv hkl
      have HQV:=hid hqv
      rw [hqv] at q0
      have HOw:=hid (fun X (b : Below wz.heap.size wz X)=>Kit.owns_below HF.out.rf.jr b (Nat.le_refl _))
      dsimp only at HOw
      rw [hm,hqv] at HOw
      clear hc hv he hm hqv hRz
      go_upto_region 10 with fail
      go_region_law (refine Kit.step_append_own rfl (.tmp 68) (.tmp 76) 65 rfl base 97 iJ _ 3 24 Try.underlying65 hiJ hJ0 hJ1 hJb rfl (by decide) (.slice qa m qc) m _ rfl (HOw.out _ BLw) ⟨wz.heap.size,0,none⟩ 1 1 [.int .i64 x.1.1,.int .i64 x.1.2,.int .i64 x.2] rfl rfl (news_of _ _ _) (by intro u hu;simp at hu;rcases hu with rfl|rfl|rfl <;> rfl) (by unfold maxLen;omega) (by omega) (by first|omega|(simp;omega)) ?_;intro v' w3 ho3 hg3 hk3;go_loud (have hcg : Chg (fun b=>jv.ownBlock = some b) wz w3:=Chg.grown (Chg.of_below BLw) hg3 (fun b e=>.inl (by rw [HQV.out];exact e));obtain ⟨y0,yf,hR,hC⟩:=HF.out.rf.setJ (J':=(r.J.take (i + 1)).filter (fun x=>kpS f x.1)) (v':=v') hcg (by (rw [HK.out,List.length_append,List.flatMap_append,HM.out]);exact ho3);have hfv : ∀ b,v'.ownBlock = some b → w.heap.size ≤ b:=(fun b e=>by (rcases hk3 with e2|e2);(·rw [e2] at e;exact HF.out.fj b (by rw [HQV.out];exact e));(·rw [e2,Option.some.injEq] at e;rw [← e];exact Nat.le_trans hws (by simp)));have HF3 : Hid (FoI w base ⟨w.heap.size,ev,v',.slice none 0 0,r.E.filter (fun x=>kpI f x.1),(r.J.take (i + 1)).filter (fun x=>kpS f x.1),[]⟩ (w3.setCell ⟨w.heap.size,1,none⟩ v')):=(⟨hR,rfl,own1_below HF.out.bel hC (Nat.le_refl _) HF.out.fj,HF.out.fe,hfv,HF.out.fc⟩);have hw3:=hcg.size;have y1 : w3.cell? ⟨w.heap.size,1,none⟩ = some (.slice qa m qc):=(by rw [← HQV.out];exact y0);clear q0 z0;obtain ⟨b2,p2,h2⟩:=own_form ho3;subst h2;clear ho3 hg3 hk3 hcg hR hC hfv y0))
      all_goals
       go_wp2
       go_roundw
       case rel=>exact ⟨i + 1,_,by go_num,by omega,HF3⟩
       case measure=>simp [intOf];omega
    ·obtain rfl : i = nJ:=by omega
     have hnl : ¬ (i : Int) < (i : Int):=by omega
     have HT : Hid ((r.J.take i).filter (fun x=>kpS f x.1) = r.J.filter (fun x=>kpS f x.1)):=by
      show _ = _
      rw [List.take_of_length_le (by rw [HNJ.out];exact Nat.le_refl _)]
     clear hqv q0 qf hRz
     have HF2 : Hid (FoI w base ⟨w.heap.size,ev,jv,.slice none 0 0,r.E.filter (fun x=>kpI f x.1),r.J.filter (fun x=>kpS f x.1),[]⟩ wz):=by
      rw [← HT.out]
      exact HF
     clear HF HT
     go_wp2
     clear z0
     go_loopw [7] (fun q wr=>∃ (i : Nat) (cv : Value),q = .int .i64 (i : Int) ∧ i ≤ nC ∧ Hid (FoI w base ⟨w.heap.size,ev,jv,cv,r.E.filter (fun x=>kpI f x.1),r.J.filter (fun x=>kpS f x.1),(r.C.take i).filter (fun x=>kpS f x.1)⟩ wr)) (fun q _=>nC - (intOf q).toNat)
     case atStart=>exact ⟨0,_,rfl,Nat.zero_le _,HF2⟩
     case round =>
      clear HF2
      obtain ⟨i,cv,rfl,hi,HF⟩:=hrel
      obtain ⟨wz,hwz⟩ : ∃ wz,wz = wr:=⟨_,rfl⟩
      rw [← hwz] at HF ⊢
      clear hwz
      have hRz:=HR.out wz HF.out.bel
      have hws:=HF.out.bel.size
      have hqz : w.heap.size < wz.heap.size:=HF.out.rf.box.sz
      have hpz : r.pb < wz.heap.size:=by omega
      have z0 : wz.cell? ⟨r.pb,2,none⟩ = some r.cv:=hRz.cells.2.2
      rw [HVC.out] at z0
      obtain ⟨qa,qc,hqv⟩:=own_form HF.out.rf.cr
      dsimp only at hqv
      have q0 : wz.cell? ⟨w.heap.size,2,none⟩ = some cv:=HF.out.rf.cells.2.2
      have qf : wz.frozen? ⟨w.heap.size,2,none⟩ = false:=HF.out.rf.box.frozen 2
      by_cases hlt : i < nC
      ·obtain ⟨x,hx⟩ : ∃ x,r.C[i]? = some x:=⟨_,List.getElem?_eq_getElem (by rw [HNC.out];exact hlt)⟩
       obtain ⟨g,cap,hv,-,hg,hc⟩:=row_at cvL_len hRz.cr hx
       rw [HVC.out] at hv
       obtain ⟨e1,-,e2⟩:=Value.slice.inj hv
       subst e1 e2
       have d0 : wz.cell? ⟨g,i * 4,none⟩ = some (.int .i64 x.1.1):=(hc 0 (by omega)).1
       have d1 : wz.cell? ⟨g,i * 4 + 1,none⟩ = some (.int .i64 x.1.2):=(hc 1 (by omega)).1
       have d2 : wz.cell? ⟨g,i * 4 + 2,none⟩ = some (x.2.1):=(hc 2 (by omega)).1
       have d3 : wz.cell? ⟨g,i * 4 + 3,none⟩ = some (.bool x.2.2.2):=(hc 3 (by omega)).1
       have hii : (i : Int) < (nC : Int):=by omega
       have hkl:=keep_len r.C i (fun x=>kpS f x.1)
       by_cases he : x.1.1 = f
       ·have HK:=hid (keep_no (p:=kpS f) hx (by simp [kpS,he]))
        have hd : (x.1.1 != f) = false:=by simp [he]
        clear hx hc hv he
        go_wp2
        go_roundw
        case rel=>exact ⟨i + 1,_,by go_num,by omega,by rw [HK.out];exact HF⟩
        case measure=>simp [intOf];omega
       ·have HK:=hid (keep_yes (p:=kpS f) hx (by simp [kpS,he]))
        have hd : (x.1.1 != f) = true:=by simp [he]
        have HLr:=hid (hRz.lr x (List.mem_of_getElem? hx))
        obtain ⟨la,lc,hla⟩:=own_form HLr.out
        obtain ⟨ln,hln⟩ : ∃ ln,x.2.2.1.length = ln:=⟨_,rfl⟩
        rw [hln] at hla
        have HLa:=hid hla
        rw [hla] at d2
        clear hla hln
        obtain ⟨m,hm⟩ : ∃ m,((r.C.take i).filter (fun x=>kpS f x.1)).length = m:=⟨_,rfl⟩
        have HM:=hid hm
        rw [hm] at hqv hkl
        have HQV:=hid hqv
        rw [hqv] at q0
        have HOw:=hid (fun X (b : Below wz.heap.size wz X)=>Kit.owns_below HF.out.rf.cr b (Nat.le_refl _))
        dsimp only at HOw
        rw [hm,hqv] at HOw
        clear hc hv he hm hqv hRz
        go_upto_region 15 with fail
        go_region_law (refine Kit.step_append_own rfl (.tmp 104) (.tmp 112) 66 rfl base 99 iC _ 4 48 Try.underlying66 hiC hC0 hC1 hCb rfl (by decide) (.slice qa m qc) m _ rfl (HOw.out _ BLw) ⟨wz.heap.size,0,none⟩ 1 1 [.int .i64 x.1.1,.int .i64 x.1.2,.slice la ln lc,.bool x.2.2.2] rfl rfl (news_of _ _ _) (by intro u hu;simp at hu;rcases hu with rfl|rfl|rfl|rfl <;> rfl) (by unfold maxLen;omega) (by omega) (by first|omega|(simp;omega)) ?_;intro v' w3 ho3 hg3 hk3;go_loud (have hcg : Chg (fun b=>cv.ownBlock = some b) wz w3:=Chg.grown (Chg.of_below BLw) hg3 (fun b e=>.inl (by rw [HQV.out];exact e));obtain ⟨y0,yf,hR,hC⟩:=HF.out.rf.setC (C':=(r.C.take (i + 1)).filter (fun x=>kpS f x.1)) (v':=v') hcg (by (rw [HK.out,List.length_append,List.flatMap_append,HM.out]);(rw [← HLa.out] at ho3);exact ho3) (fun y hy=>by (rw [HK.out,List.mem_append,List.mem_singleton] at hy);(rcases hy with hy|rfl);(·exact owns_chg (HF.out.rf.lr y hy) hcg (own_unlike (HF.out.rf.lr y hy) HF.out.rf.cr (by decide)));(·exact owns_chg HLr.out hcg (own_unlike HLr.out HF.out.rf.cr (by decide))));have hfv : ∀ b,v'.ownBlock = some b → w.heap.size ≤ b:=(fun b e=>by (rcases hk3 with e2|e2);(·rw [e2] at e;exact HF.out.fc b (by rw [HQV.out];exact e));(·rw [e2,Option.some.injEq] at e;rw [← e];exact Nat.le_trans hws (by simp)));have HF3 : Hid (FoI w base ⟨w.heap.size,ev,jv,v',r.E.filter (fun x=>kpI f x.1),r.J.filter (fun x=>kpS f x.1),(r.C.take (i + 1)).filter (fun x=>kpS f x.1)⟩ (w3.setCell ⟨w.heap.size,2,none⟩ v')):=(⟨hR,rfl,own1_below HF.out.bel hC (Nat.le_refl _) HF.out.fc,HF.out.fe,HF.out.fj,hfv⟩);have hw3:=hcg.size;have y1 : w3.cell? ⟨w.heap.size,2,none⟩ = some (.slice qa m qc):=(by rw [← HQV.out];exact y0);clear q0 z0;obtain ⟨b2,p2,h2⟩:=own_form ho3;subst h2;clear ho3 hg3 hk3 hcg hR hC hfv y0))
        all_goals
         go_wp2
         go_roundw
         case rel=>exact ⟨i + 1,_,by go_num,by omega,HF3⟩
         case measure=>simp [intOf];omega
      ·obtain rfl : i = nC:=by omega
       have hnl : ¬ (i : Int) < (i : Int):=by omega
       have HT : Hid ((r.C.take i).filter (fun x=>kpS f x.1) = r.C.filter (fun x=>kpS f x.1)):=by
        show _ = _
        rw [List.take_of_length_le (by rw [HNC.out];exact Nat.le_refl _)]
       clear hqv q0 qf hRz
       have HF3 : Hid (FoI w base ⟨w.heap.size,ev,jv,cv,r.E.filter (fun x=>kpI f x.1),r.J.filter (fun x=>kpS f x.1),r.C.filter (fun x=>kpS f x.1)⟩ wz):=by
        rw [← HT.out]
        exact HF
       have hR:=HF3.out.rf
       obtain ⟨ea2,ec2,he2⟩:=own_form hR.er
       obtain ⟨ja2,jc2,hj2⟩:=own_form hR.jr
       obtain ⟨ca2,cc2,hc2⟩:=own_form hR.cr
       dsimp only at he2 hj2 hc2
       have s0 : wz.cell? ⟨w.heap.size,0,none⟩ = some ev:=hR.cells.1
       have s1 : wz.cell? ⟨w.heap.size,1,none⟩ = some jv:=hR.cells.2.1
       have s2 : wz.cell? ⟨w.heap.size,2,none⟩ = some cv:=hR.cells.2.2
       have hbz:=(HR.out wz HF.out.bel).box
       have t0 : wz.cell? ⟨r.pb,0,none⟩ = some r.ev:=hbz.cell 0
       have t1 : wz.cell? ⟨r.pb,1,none⟩ = some r.jv:=hbz.cell 1
       have t2 : wz.cell? ⟨r.pb,2,none⟩ = some r.cv:=hbz.cell 2
       have u0:=hbz.frozen 0
       have u1:=hbz.frozen 1
       have u2:=hbz.frozen 2
       have HBz:=hid hbz
       have HFv : Hid (∀ b,(ev.ownBlock = some b ∨ jv.ownBlock = some b ∨ cv.ownBlock = some b) → w.heap.size ≤ b):=(fun b e=>by
        rcases e with e|e|e
        ·exact HF3.out.fe b e
        ·exact HF3.out.fj b e
        ·exact HF3.out.fc b e)
       have HFin:=hid (move_box hR HF.out.bel hbz HF3.out.fe HF3.out.fj HF3.out.fc hpb)
       subst he2 hj2 hc2
       clear hR hbz HF
       go_wp2
       try simp only [Exit.inBlock,Exit.then]
       exact bodyPost_ret (v:=.tuple #[]) (by simp [results,Try.results31,go_sem]) rfl (FgPost.is _ _ _ HFin.out.1 HFin.out.2 HFv.out)
end Go.Proofs.Ytfphiomhlhpphaa
namespace Go.Proofs.Ytfphiomhlhpphaa
open Go Go.RowKit
open Pf (Site Sn ix addk alt keys)
set_option maxRecDepth 100000
set_option maxHeartbeats 4000000
theorem ones_jv (l : List (Site × Int)) : ∀ u ∈ l.flatMap jvL,u.oneCell' = true:=by
 intro u hu
 obtain ⟨x,-,hx⟩:=List.mem_flatMap.1 hu
 simp only [jvL,List.mem_cons,List.not_mem_nil,or_false] at hx
 rcases hx with rfl|rfl|rfl <;> rfl
theorem ones_cv {w : World} {base : Nat} {r : PR} (h : RefR w base r) : ∀ u ∈ r.C.flatMap cvL,u.oneCell' = true:=by
 intro u hu
 obtain ⟨x,hm,hx⟩:=List.mem_flatMap.1 hu
 obtain ⟨a,c,hv⟩:=own_form (h.lr x hm)
 simp only [cvL,List.mem_cons,List.not_mem_nil,or_false,hv] at hx
 rcases hx with rfl|rfl|rfl|rfl <;> rfl
def RClPost (w : World) (base : Nat) (r : PR) (e : Ending) (w' : World) : Prop :=
 ∃ pb ev jv cv,e = .returned (.pointer (some ⟨pb,0,none⟩)) ∧ RefR w' base ⟨pb,ev,jv,cv,r.E,r.J,r.C⟩ ∧ Below w.heap.size w w' ∧ w.heap.size ≤ pb ∧ (∀ b,(ev.ownBlock = some b ∨ jv.ownBlock = some b ∨ cv.ownBlock = some b) → w.heap.size ≤ b)
theorem rClone_any {w : World} {base : Nat} {r : PR} (h : RefR w base r) (hE : r.E.length ≤ 2932031007340) (hJ : r.J.length ≤ 2932031007340) (hC : r.C.length ≤ 2932031007340) : Calls Try.prog 56 #[.pointer (some ⟨r.pb,0,none⟩)] w (RClPost w base r):=by
 obtain ⟨iE,hiE,hE0,hE1,hEb⟩:=info_parts infoEn
 obtain ⟨iJ,hiJ,hJ0,hJ1,hJb⟩:=info_parts infoJu
 obtain ⟨iC,hiC,hC0,hC1,hCb⟩:=info_parts infoCa
 have HR:=hid (fun X (b : Below w.heap.size w X)=>h.below b)
 have HOnes:=hid (ones_cv h)
 have hbase : base ≤ w.heap.size:=Nat.le_trans h.low (Nat.le_of_lt h.box.sz)
 have hpb:=h.box.sz
 obtain ⟨ea,ec,hev⟩:=own_form h.er
 obtain ⟨ja,jc,hjv⟩:=own_form h.jr
 obtain ⟨ca,cc,hcv⟩:=own_form h.cr
 have HSE:=hid (fun X (b : Below w.heap.size w X)=>Kit.isS_of_owns (h.below b).er (by omega))
 have HSJ:=hid (fun X (b : Below w.heap.size w X)=>Kit.isS_of_owns (h.below b).jr (by omega))
 have HSC:=hid (fun X (b : Below w.heap.size w X)=>Kit.isS_of_owns (h.below b).cr (by omega))
 obtain ⟨nE,hnE⟩ : ∃ n,r.E.length = n:=⟨_,rfl⟩
 obtain ⟨nJ,hnJ⟩ : ∃ n,r.J.length = n:=⟨_,rfl⟩
 obtain ⟨nC,hnC⟩ : ∃ n,r.C.length = n:=⟨_,rfl⟩
 have HNE:=hid hnE
 have HNJ:=hid hnJ
 have HNC:=hid hnC
 rw [hnE] at hev hE HSE
 rw [hnJ] at hjv hJ HSJ
 rw [hnC] at hcv hC HSC
 rw [hev] at HSE
 rw [hjv] at HSJ
 rw [hcv] at HSC
 have HCl:=hid (fun X (b : Below w.heap.size w X)=>(h.below b).cells)
 rw [hev,hjv,hcv] at HCl
 have h0 : Below w.heap.size w w:=Below.refl _ _
 obtain ⟨c0,c1,c2⟩:=HCl.out w h0
 clear hev hjv hcv hnE hnJ hnC h
 go_enter Try.func56,Try.ntmps56
 go_upto_region 1 with fail
 go_region_law (first
  | (refine Kit.step_rows rfl (.const (.slice none 0 0)) (.tmp 6) 64 rfl w.heap.size 95 iE _ 2 16 Try.underlying64 hiE hE0 hE1 hEb rfl (by decide) (.slice none 0 0) 0 [] rfl ⟨rfl,.inl ⟨rfl,rfl⟩⟩ (by first|exact h0.size|(simp;exact h0.size)) (.slice ea nE ec) nE (r.E.flatMap evL) rfl (HSE.out _ BLw) (ones_ev _) (by unfold maxLen;omega) (by omega) ?_;intro v w1 ho hg _;rw [Nat.zero_add,List.nil_append] at ho;go_loud (have hb : Below _ _ w1:=Kit.below_grown (Below.refl _ _) hg (Nat.le_refl _) (fun k e=>by simp [Value.ownBlock] at e);have h1 : Below w.heap.size w w1:=belows (by first|exact h0|exact Below.drew h0) hb (by first|exact h0.size|(simp;exact h0.size));(try (have HOq:=hid (Kit.owns_below HOJ.out (by first|exact hb|exact below_undrew hb) (Nat.le_refl _));clear HOJ;have HOJ:=HOq;clear HOq));(try (have HOq:=hid (Kit.owns_below HOC.out (by first|exact hb|exact below_undrew hb) (Nat.le_refl _));clear HOC;have HOC:=HOq;clear HOq));have HOE:=hid ho;obtain ⟨aE,pE,hv⟩:=own_form ho;subst hv;clear ho hg hb h0 c0 c1 c2;have h0:=h1;clear h1;obtain ⟨c0,c1,c2⟩:=HCl.out w1 h0))
  | (refine Kit.step_rows rfl (.const (.slice none 0 0)) (.tmp 11) 65 rfl w.heap.size 97 iJ _ 3 24 Try.underlying65 hiJ hJ0 hJ1 hJb rfl (by decide) (.slice none 0 0) 0 [] rfl ⟨rfl,.inl ⟨rfl,rfl⟩⟩ (by first|exact h0.size|(simp;exact h0.size)) (.slice ja nJ jc) nJ (r.J.flatMap jvL) rfl (HSJ.out _ BLw) (ones_jv _) (by unfold maxLen;omega) (by omega) ?_;intro v w1 ho hg _;rw [Nat.zero_add,List.nil_append] at ho;go_loud (have hb : Below _ _ w1:=Kit.below_grown (Below.refl _ _) hg (Nat.le_refl _) (fun k e=>by simp [Value.ownBlock] at e);have h1 : Below w.heap.size w w1:=belows (by first|exact h0|exact Below.drew h0) hb (by first|exact h0.size|(simp;exact h0.size));(try (have HOq:=hid (Kit.owns_below HOE.out (by first|exact hb|exact below_undrew hb) (Nat.le_refl _));clear HOE;have HOE:=HOq;clear HOq));(try (have HOq:=hid (Kit.owns_below HOC.out (by first|exact hb|exact below_undrew hb) (Nat.le_refl _));clear HOC;have HOC:=HOq;clear HOq));have HOJ:=hid ho;obtain ⟨aJ,pJ,hv⟩:=own_form ho;subst hv;clear ho hg hb h0 c0 c1 c2;have h0:=h1;clear h1;obtain ⟨c0,c1,c2⟩:=HCl.out w1 h0))
  | (refine Kit.step_rows rfl (.const (.slice none 0 0)) (.tmp 16) 66 rfl w.heap.size 99 iC _ 4 48 Try.underlying66 hiC hC0 hC1 hCb rfl (by decide) (.slice none 0 0) 0 [] rfl ⟨rfl,.inl ⟨rfl,rfl⟩⟩ (by first|exact h0.size|(simp;exact h0.size)) (.slice ca nC cc) nC (r.C.flatMap cvL) rfl (HSC.out _ BLw) HOnes.out (by unfold maxLen;omega) (by omega) ?_;intro v w1 ho hg _;rw [Nat.zero_add,List.nil_append] at ho;go_loud (have hb : Below _ _ w1:=Kit.below_grown (Below.refl _ _) hg (Nat.le_refl _) (fun k e=>by simp [Value.ownBlock] at e);have h1 : Below w.heap.size w w1:=belows (by first|exact h0|exact Below.drew h0) hb (by first|exact h0.size|(simp;exact h0.size));(try (have HOq:=hid (Kit.owns_below HOE.out (by first|exact hb|exact below_undrew hb) (Nat.le_refl _));clear HOE;have HOE:=HOq;clear HOq));(try (have HOq:=hid (Kit.owns_below HOJ.out (by first|exact hb|exact below_undrew hb) (Nat.le_refl _));clear HOJ;have HOJ:=HOq;clear HOq));have HOC:=hid ho;obtain ⟨aC,pC,hv⟩:=own_form ho;subst hv;clear ho hg hb h0 c0 c1 c2;have h0:=h1;clear h1;obtain ⟨c0,c1,c2⟩:=HCl.out w1 h0)))
 all_goals
  have HB:=hid h0
  have hlr:=(HR.out w1 h0).lr
  have HLr:=hid hlr
  have hz:=h0.size
  clear c0 c1 c2 h0 hlr
  go_wp2
  go_ret
  have ha : Below w1.heap.size w1 (w1.alloc (.cells #[.slice aE nE pE,.slice aJ nJ pJ,.slice aC nC pC] 68)):=(Below.refl _ _).alloc (Nat.le_refl _) _
  refine ⟨w1.heap.size,.slice aE nE pE,.slice aJ nJ pJ,.slice aC nC pC,rfl,⟨BX.new w1 _ _,?_,?_,?_,fun x hx=>Kit.owns_below (HLr.out x hx) ha (Nat.le_refl _),Nat.le_trans hbase hz⟩,belows HB.out ha hz,hz,fun b e=>?_⟩
  ·rw [HNE.out]
   exact Kit.owns_mono (Kit.owns_below HOE.out ha (Nat.le_refl _)) hbase
  ·rw [HNJ.out]
   exact Kit.owns_mono (Kit.owns_below HOJ.out ha (Nat.le_refl _)) hbase
  ·rw [HNC.out]
   exact Kit.owns_mono (Kit.owns_below HOC.out ha (Nat.le_refl _)) hbase
  ·rcases e with e|e|e
   ·exact Kit.own_base HOE.out b e
   ·exact Kit.own_base HOJ.out b e
   ·exact Kit.own_base HOC.out b e
end Go.Proofs.Ytfphiomhlhpphaa
