/- Own texts for the claim, part 12. -/
import Derived.Test.YtnojgiflgmnjlaaGreatDoorZD11
import Derived.DeepKeys4
set_option maxRecDepth 100000
namespace Go.Proofs.YtnojgiflgmnjlaaGreatDoor.L2
open Go.RowKit
theorem take_pred {s : ByteArray} {c : UInt8} {l : List UInt8} (h : Ds.bl s = c :: l) {j : Nat} (h1 : 1 ≤ j) (hj : j < s.size) : l = l.take (j - 1) ++ s[j] :: l.drop j:=by
 have hb:=bl_at s j hj
 rw [h] at hb
 obtain ⟨i,rfl⟩ : ∃ i,j = i + 1:=⟨j - 1,by omega⟩
 rw [List.getElem?_cons_succ] at hb
 have hi:=(List.getElem?_eq_some_iff.1 hb).1
 have e:=(List.getElem?_eq_some_iff.1 hb).2
 rw [Nat.add_sub_cancel,← e]
 rw [← List.drop_eq_getElem_cons hi]
 exact (List.take_append_drop i l).symm
set_option maxHeartbeats 1000000 in
theorem rread_obj (s : ByteArray) (l : List UInt8) (w : World) (h : Ds.bl s = 76 :: l) (hs : s.size ≤ 255) : Calls Tryz.prog 158 #[.string s] w (RrPost s w):=by
 unfold RrPost
 have h1:=size_pos h
 have h1' : (0 : Int) < s.size:=by omega
 have h0 : (s.toList.isEmpty) = false:=by
  rw [ByteArray.toList_eq]
  have : s.data.toList = 76 :: l:=h
  rw [this];rfl
 have HC : s[0]'h1 = 76:=first_at h
 have hsl : l.length = s.size - 1:=by have:=(rest_size h).2;omega
 obtain ⟨o,ho⟩ : ∃ o,o = rrOut (Ds.bl s):=⟨_,rfl⟩
 rw [← ho]
 have HO : Hid (o = match Ds.cutC 59 l with|none=>((0,[]),0)|some (a,_)=>if Ds.classB a = true then ((4,a),((a.length + 2 : Nat) : Int)) else ((0,[]),0)):=by
  show o = _
  rw [ho,h]
  unfold rrOut
  rw [show Ds.rd (76 :: l) = match Ds.cutC 59 l with|none=>none|some (a,_)=>if Ds.classB a = true then some (4,a,a.length + 2) else none from rfl]
  cases Ds.cutC 59 l with
  | none=>rfl
  | some ab =>
   obtain ⟨a,b⟩:=ab
   dsimp only
   by_cases hc : Ds.classB a = true
   ·rw [if_pos hc,if_pos hc]
   ·rw [if_neg hc,if_neg hc]
 have HH:=hid h
 have HL:=hid hsl
 clear ho h hsl
 unfold tyV
 go_enter Tryz.func158,Tryz.ntmps158
 go_wp2
 go_loopw [6] (fun i wr=>∃ j : Nat,1 ≤ j ∧ j ≤ s.size ∧ i = .int .i64 j ∧ Hid (∀ x ∈ l.take (j - 1),x ≠ 59) ∧ wr = w.alloc (.cells #[.int .i64 0,.string ⟨#[]⟩] 132)) (fun i _=>s.size - (intOf i).toNat)
 case atStart=>exact ⟨1,by omega,by omega,rfl,(fun x hx=>by simp at hx : ∀ x ∈ l.take (1 - 1),x ≠ 59),rfl⟩
 case round =>
  obtain ⟨j,hj1,hj2,rfl,hno,rfl⟩:=hrel
  by_cases hlt : j < s.size
  ·have hE:=hid (take_pred HH.out hj1 hlt)
   have hji : (j : Int) < s.size:=by omega
   by_cases hc : s[j] = 59
   ·have hd : ((s[j].toNat : Int) == 59) = true:=by rw [hc];rfl
    have hcut : Ds.cutC 59 l = some (l.take (j - 1),l.drop j):=by
     have:=cut_pre (c:=59) (r:=l.drop j) hno.out
     rw [← hc,← hE.out] at this
     rw [← hc]
     exact this
    have HO2:=HO.out
    rw [hcut] at HO2
    dsimp only at HO2
    have hla : (l.take (j - 1)).length = j - 1:=by rw [List.length_take,HL.out];omega
    have hex:=hid (show Ds.bl (s.extract 1 j) = l.take (j - 1) by rw [bl_ext,HH.out];simp)
    have HK:=fun W=>rclass_any (s.extract 1 j) W (by have:=ext_size s 1 j;omega)
    rw [hex.out] at HK
    have hj1i : (1 : Int) ≤ j:=by omega
    have hj2i : (j : Int) ≤ s.size:=by omega
    have hw1 : IntKind.i64.wrap ((j : Int) + 1) = (j : Int) + 1:=IntWalk.i64_in _ (by omega)
    rw [hla] at HO2
    cases hcl : Ds.classB (l.take (j - 1)) with
    | true =>
     rw [hcl,if_pos rfl] at HO2
     rw [hcl] at HK
     have HKc:=hid HK
     have HOo:=hid HO2
     have hJ:=hid (show ((j - 1 + 2 : Nat) : Int) = (j : Int) + 1 by omega)
     have hext:=hid (ba_of hex.out)
     clear HK HO2 hcut hc hla hcl
     go_wp2_with (go_at_call 125;refine (HKc.out _).mono ?_;rintro e w1 ⟨rfl,hb1⟩;obtain ⟨hcc,hff⟩:=bcell hb1;have hz1:=hb1.size;simp only [World.size_alloc] at hz1;have hz2 : w.heap.size < w1.heap.size:=(by omega))
     have hA:=belows (B:=w.heap.size) (a:=w) BLw hb1 (by simp)
     rw [HOo.out]
     dsimp only
     rw [hJ.out,← hext.out]
     exact bodyPost_ret (v:=.tuple #[.agg #[.int .i64 4,.string (s.extract 1 j)],.int .i64 ((j : Int) + 1)]) (by simp [results,Tryz.results158,go_sem,hcc]) rfl ⟨rfl,BLw⟩
    | false =>
     rw [hcl,if_neg (by simp)] at HO2
     rw [hcl] at HK
     have HKc:=hid HK
     have HOo:=hid HO2
     clear HK HO2 hcut hc hla hcl
     go_wp2_with (go_at_call 125;refine (HKc.out _).mono ?_;rintro e w1 ⟨rfl,hb1⟩;obtain ⟨hcc,hff⟩:=bcell hb1;have hz1:=hb1.size;simp only [World.size_alloc] at hz1;have hz2 : w.heap.size < w1.heap.size:=(by omega))
     have hA:=belows (B:=w.heap.size) (a:=w) BLw hb1 (by simp)
     rw [HOo.out]
     exact bodyPost_ret (v:=.tuple #[.agg #[.int .i64 0,.string ⟨#[]⟩],.int .i64 0]) (by simp [results,Tryz.results158,go_sem,hcc]) rfl ⟨rfl,BLw⟩
   ·have hd : ((s[j].toNat : Int) == 59) = false:=u8_ne hc
    have hno2 : Hid (∀ x ∈ l.take (j + 1 - 1),x ≠ 59):=by
     show ∀ x ∈ l.take (j + 1 - 1),x ≠ 59
     intro x hx
     have e:=hE.out
     rw [Nat.add_sub_cancel] at hx
     have hl1 : (l.take (j - 1)).length = j - 1:=by rw [List.length_take,HL.out];omega
     rw [e,List.take_append,hl1,show j - (j - 1) = 1 by omega] at hx
     rcases List.mem_append.1 hx with hx|hx
     ·exact hno.out x (List.mem_of_mem_take hx)
     ·simp at hx;rw [hx];exact hc
    have hw1 : IntKind.i64.wrap ((j : Int) + 1) = (j : Int) + 1:=IntWalk.i64_in _ (by omega)
    clear hc
    go_wp2
    go_roundw
    case rel=>exact ⟨j + 1,by omega,by omega,by go_num,hno2,by trivial⟩
    case measure=>simp [intOf];omega
  ·obtain rfl : j = s.size:=by omega
   have HO2:=HO.out
   rw [cut_none (pre:=l) (by have:=hno.out;rwa [List.take_of_length_le (by rw [HL.out];exact Nat.le_refl _)] at this)] at HO2
   have HOo:=hid HO2
   clear HO2
   go_wp2
   rw [HOo.out]
   exact bodyPost_ret (v:=.tuple #[.agg #[.int .i64 0,.string ⟨#[]⟩],.int .i64 0]) (by simp [results,Tryz.results158,go_sem]) rfl ⟨rfl,BLw⟩
theorem rread_any : ∀ (l : List UInt8) (s : ByteArray) (w : World),Ds.bl s = l → s.size ≤ 255 → Calls Tryz.prog 158 #[.string s] w (RrPost s w)
 | [],s,w,h,_=>rread_nil s w h
 | c :: l,s,w,h,hs=>by
  by_cases c1 : c = 73
  ·exact rread_letter s c l w h (.inl c1)
  by_cases c2 : c = 74
  ·exact rread_letter s c l w h (.inr c2)
  by_cases c3 : c = 91
  ·subst c3
   have z:=rest_size h
   exact rread_arr s l w h hs fun W=>rread_any l (s.extract 1 s.size) W (rest_at h) (by omega)
  by_cases c4 : c = 76
  ·subst c4;exact rread_obj s l w h hs
  exact rread_other s c l w h c1 c2 c3 c4
end Go.Proofs.YtnojgiflgmnjlaaGreatDoor.L2
namespace Go.Proofs.YtnojgiflgmnjlaaGreatDoor.L2
open Go.RowKit
abbrev MdO:=List Ds.Ty × Ds.Ty × Int
def finO (x : Option (List Ds.Ty × Ds.Ty × List UInt8)) : MdO:=match x with
 | some (xs,y,[])=>(xs,y,0)
 | _=>([],(0,[]),20)
def badO (er : Int) : MdO:=([],(0,[]),er)
def RmP (o : MdO) (w : World) (e : Ending) (w' : World) : Prop:=∃ v,e = .returned (.tuple #[v,.agg #[.int .i64 o.2.1.1,.string ⟨o.2.1.2.toArray⟩],.int .i64 o.2.2]) ∧ OwnT w' w.heap.size v o.1 ∧ Below w.heap.size w w'
theorem mdOut_fin (l : List UInt8) : mdOut l = if 255 < l.length then badO 3 else finO (Ds.md l):=by
 unfold mdOut finO badO
 rfl
theorem finO_ret {xs : List Ds.Ty} {c : UInt8} {l : List UInt8} (hc : c ≠ 86) : finO (Ds.retM xs (c :: l)) = match Ds.rd (c :: l) with|none=>badO 20|some (k,m,n)=>if n = (c :: l).length then (xs,(k,m),0) else badO 20:=by
 unfold Ds.retM Ds.retF
 dsimp only
 rw [if_neg hc]
 cases hr : Ds.rd (c :: l) with
 | none=>rfl
 | some y =>
  obtain ⟨k,m,n⟩:=y
  have hl:=Ds.rd_len hr
  dsimp only
  by_cases hn : n = (c :: l).length
  ·rw [if_pos hn,hn,List.drop_length];rfl
  ·rw [if_neg hn]
   cases hd : (c :: l).drop n with
   | nil=>exact absurd (List.drop_eq_nil_iff.1 hd) (by omega)
   | cons a b=>rfl
theorem finO_void {xs : List Ds.Ty} {l : List UInt8} : finO (Ds.retM xs (86 :: l)) = if l = [] then (xs,(0,[]),0) else badO 20:=by
 cases l with
 | nil=>rfl
 | cons a b=>rw [if_neg (by simp)];rfl
theorem rd_void (l : List UInt8) : Ds.rd (86 :: l) = none:=by unfold Ds.rd;rw [if_neg (by decide),if_neg (by decide),if_neg (by decide),if_neg (by decide)]
theorem finO_gen {xs : List Ds.Ty} {r : List UInt8} (hr : r ≠ [86]) : finO (Ds.retM xs r) = match Ds.rd r with|none=>badO 20|some (k,m,n)=>if n = r.length then (xs,(k,m),0) else badO 20:=by
 cases r with
 | nil=>rfl
 | cons c t =>
  by_cases hc : c = 86
  ·subst hc
   rw [finO_void,rd_void,if_neg (fun e=>hr (by rw [e]))]
  ·exact finO_ret hc
theorem RB.grown {w w' : World} {B : Nat} {row : Option Nat} (h : RB w B) (hg : w.grownBy w' row) (hne : row ≠ some B) : RB w' B:=(hg.block B h.sz (fun e=>hne e.symm)).trans h
set_option maxHeartbeats 400000 in
theorem rmethod_refuse (s : ByteArray) (w : World) (h : 255 < s.size ∨ (s.size ≤ 255 ∧ (Ds.bl s = [] ∨ ∃ c l,Ds.bl s = c :: l ∧ c ≠ 40))) :
  Calls Tryz.prog 117 #[.string s] w (RmP (badO (if 255 < s.size then 3 else 20)) w):=by
 unfold RmP badO
 rcases h with h|⟨hs,h|⟨c,l,h,hc⟩⟩
 ·have hd : decide (255 < (s.size : Int)) = true:=by simp;omega
  rw [if_pos h]
  clear h
  go_enter Tryz.func117,Tryz.ntmps117
  go_wp2
  exact bodyPost_ret (v:=.tuple #[.slice none 0 0,.agg #[.int .i64 0,.string ⟨#[]⟩],.int .i64 3]) (by simp [results,Tryz.results117,go_sem]) rfl ⟨_,rfl,nilT _ _,BLw⟩
 ·have hd : decide (255 < (s.size : Int)) = false:=by simp;omega
  rw [if_neg (by omega)]
  have h0 : (s.toList.isEmpty) = true:=by rw [ByteArray.toList_eq];exact List.isEmpty_iff.2 h
  clear h
  go_enter Tryz.func117,Tryz.ntmps117
  go_wp2
  exact bodyPost_ret (v:=.tuple #[.slice none 0 0,.agg #[.int .i64 0,.string ⟨#[]⟩],.int .i64 20]) (by simp [results,Tryz.results117,go_sem]) rfl ⟨_,rfl,nilT _ _,BLw⟩
 ·have hd : decide (255 < (s.size : Int)) = false:=by simp;omega
  rw [if_neg (by omega)]
  have h1:=size_pos h
  have h1' : (0 : Int) < s.size:=by omega
  have h0 : (s.toList.isEmpty) = false:=by
   rw [ByteArray.toList_eq]
   have : s.data.toList = c :: l:=h
   rw [this];rfl
  have HC : s[0]'h1 = c:=first_at h
  have d1 : ((c.toNat : Int) == 40) = false:=u8_ne hc
  clear h hc
  go_enter Tryz.func117,Tryz.ntmps117
  go_wp2
  exact bodyPost_ret (v:=.tuple #[.slice none 0 0,.agg #[.int .i64 0,.string ⟨#[]⟩],.int .i64 20]) (by simp [results,Tryz.results117,go_sem]) rfl ⟨_,rfl,nilT _ _,BLw⟩
set_option maxHeartbeats 400000 in
theorem rmethod_open (s : ByteArray) (l : List UInt8) (w : World) (h : Ds.bl s = 40 :: l) (hs : s.size ≤ 255) :
  Calls Tryz.prog 117 #[.string s] w (RmP (finO (Ds.md (Ds.bl s))) w):=by
 obtain ⟨o,ho⟩ : ∃ o,o = finO (Ds.md (Ds.bl s)):=⟨_,rfl⟩
 have ho1 : finO (Ds.mdA [] (l.length + 1) l) = o:=by rw [ho,h];rfl
 have hl1 : l = (Ds.bl s).drop 1:=by rw [h];rfl
 rw [← ho]
 unfold RmP
 have hd : decide (255 < (s.size : Int)) = false:=by simp;omega
 have h1:=size_pos h
 have h1' : (0 : Int) < s.size:=by omega
 have h0 : (s.toList.isEmpty) = false:=by
  rw [ByteArray.toList_eq]
  have : s.data.toList = 40 :: l:=h
  rw [this];rfl
 have HC : s[0]'h1 = 40:=first_at h
 have hll : l.length + 1 = s.size:=by rw [← bl_len,h];rfl
 have HO1:=hid ho1
 have HL1:=hid hl1
 have HRd:=hid (fun (p : Nat) W=>rread_any _ (s.extract p s.size) W rfl (by have:=ext_size s p s.size;omega))
 obtain ⟨i0,hi,hz0,hz1,hz2⟩:=info_parts A.infoTy
 clear ho h hl1 ho1
 go_enter Tryz.func117,Tryz.ntmps117
 go_wp2
 go_loopw [5,6] (fun v i wr=>∃ (xs : List Ds.Ty) (p f : Nat),i = .int .i64 p ∧ 1 ≤ p ∧ p ≤ s.size ∧ OwnT wr (w.heap.size + 1) v xs ∧ RB wr w.heap.size ∧ Below w.heap.size w wr ∧ s.size - p < f ∧ xs.length + 1 ≤ p ∧ Hid (finO (Ds.mdA xs f ((Ds.bl s).drop p)) = o)) (fun _ i _=>s.size - (intOf i).toNat)
 case atStart=>exact ⟨[],1,l.length + 1,rfl,by omega,by omega,nilT _ _,RB.new w,BLw,by omega,by simp,(by show finO _ = o;rw [← HL1.out];exact HO1.out)⟩
 case round =>
  obtain ⟨xs,p,f,rfl,hp1,hp2,hown,hrb,hbl,hf,hxs,hmd⟩:=hrel
  obtain ⟨f,rfl⟩ : ∃ f',f = f' + 1:=⟨f - 1,by omega⟩
  have hrs:=hrb.sz
  have hpi0 : (0 : Int) ≤ p:=by omega
  have hpi1 : (p : Int) ≤ s.size:=by omega
  by_cases hlt : p < s.size
  ·have hpi : (p : Int) < s.size:=by omega
   have hdr : (Ds.bl s).drop p = s[p] :: (Ds.bl s).drop (p + 1):=by
    rw [List.drop_eq_getElem_cons (by rw [bl_len];exact hlt)]
    have:=bl_at s p hlt
    rw [List.getElem?_eq_getElem (by rw [bl_len];exact hlt)] at this
    rw [Option.some.inj this]
   by_cases hc : s[p] = 41
   ·have hcd : ((s[p].toNat : Int) != 41) = false:=by rw [hc];rfl
    have hne : ((p : Int) == (s.size : Int)) = false:=by rw [beq_eq_false_iff_ne];omega
    have hm:=hmd.out
    rw [hdr,hc,Ds.mdA_shut] at hm
    have w1 : IntKind.i64.wrap ((p : Int) + 1) = (p : Int) + 1:=IntWalk.i64_in _ (by omega)
    have w2 : (0 : Int) ≤ (p : Int) + 1:=by omega
    have w3 : ((p : Int) + 1).toNat = p + 1:=by omega
    have w4 : (p : Int) + 1 ≤ s.size:=by omega
    have hbx : Ds.bl (s.extract (p + 1) s.size) = (Ds.bl s).drop (p + 1):=ext_drop s (p + 1)
    have HR0:=fun W=>HRd.out (p + 1) W
    unfold RrPost rrOut at HR0
    rw [hbx] at HR0
    have hlen : ((Ds.bl s).drop (p + 1)).length = s.size - (p + 1):=by rw [List.length_drop,bl_len]
    obtain ⟨r,hr⟩ : ∃ r,r = (Ds.bl s).drop (p + 1):=⟨_,rfl⟩
    rw [← hr] at hm hbx HR0 hlen
    have HOwn:=hid hown
    obtain ⟨sa,sc,rfl⟩:=own_form hown
    by_cases hV : r = [86]
    ·rw [hV,finO_void,if_pos rfl] at hm
     have HM:=hid hm
     have hqs : ((s.extract (p + 1) s.size).toList == [86]) = true:=by rw [beq_iff_eq,str_eq,hbx,hV]
     obtain ⟨b0,b1,f0,f1⟩:=hrb.facts
     clear hm HR0 hV hbx hr hc hdr hown hmd
     go_wp2
     exact bodyPost_ret (v:=.tuple #[.slice sa xs.length sc,.agg #[.int .i64 0,.string ⟨#[]⟩],.int .i64 0]) (by simp [results,Tryz.results117,go_sem,b0,b1]) rfl ⟨_,by rw [← HM.out],by rw [← HM.out];exact own_mono (Kit.owns_grown (Kit.owns_grown HOwn.out (set_grown _ w.heap.size 0 _) (by omega)) (set_grown _ w.heap.size 1 _) (by omega)) (by omega),BLw⟩
    ·have hqv : ((s.extract (p + 1) s.size).toList == [86]) = false:=by rw [beq_eq_false_iff_ne,ne_eq,str_eq,hbx];exact hV
     rw [finO_gen hV] at hm
     cases hrd : Ds.rd r with
     | none =>
      rw [hrd] at hm HR0
      dsimp only at hm HR0
      unfold tyV at HR0
      have HR:=hid HR0
      have HM:=hid hm
      clear hm HR0 hV hbx hr hc hdr hown hmd hrd
      go_wp2_with (go_at_call 158;refine (HR.out _).mono ?_;rintro e w1 ⟨rfl,hb1⟩;have hz3:=hb1.size;have hrb1:=hrb.below hb1 hrs;obtain ⟨b0,b1,f0,f1⟩:=hrb1.facts;have hzw : w.heap.size < w1.heap.size:=(by omega);have hbl1:=belows hbl hb1 hbl.size)
      exact bodyPost_ret (v:=.tuple #[.slice none 0 0,.agg #[.int .i64 0,.string ⟨#[]⟩],.int .i64 20]) (by simp [results,Tryz.results117,go_sem,b0,b1,hzw]) rfl ⟨_,by rw [← HM.out];rfl,by rw [← HM.out];exact nilT _ _,BLw⟩
     | some y =>
      obtain ⟨k,m,n⟩:=y
      have hrl:=Ds.rd_len hrd
      rw [hrd] at hm HR0
      dsimp only at hm HR0
      unfold tyV at HR0
      have HR:=hid HR0
      have hn0 : ((n : Int) == 0) = false:=by rw [beq_eq_false_iff_ne];omega
      have hs1 : IntKind.i64.wrap ((p : Int) + 1 + n) = (p : Int) + 1 + n:=IntWalk.i64_in _ (by omega)
      by_cases hn : n = r.length
      ·rw [if_pos hn] at hm
       have HM:=hid hm
       have hne2 : ((p : Int) + 1 + n != (s.size : Int)) = false:=by simp;omega
       clear hm HR0 hV hbx hr hc hdr hown hmd hrd hrl hlen hn
       go_wp2_with (go_at_call 158;refine (HR.out _).mono ?_;rintro e w1 ⟨rfl,hb1⟩;have hz3:=hb1.size;have hrb1:=hrb.below hb1 hrs;obtain ⟨b0,b1,f0,f1⟩:=hrb1.facts;have hzw : w.heap.size < w1.heap.size:=(by omega);have hbl1:=belows hbl hb1 hbl.size)
       have hcl : (w1.alloc (.cells #[.int .i64 k,.string ⟨m.toArray⟩] 132)).heap[w1.heap.size]? = some (.cells #[.int .i64 k,.string ⟨m.toArray⟩] 132 (0,0)):=World.alloc_heap_new w1 _
       have hba : Below w1.heap.size w1 (w1.alloc (.cells #[.int .i64 k,.string ⟨m.toArray⟩] 132)):=(Below.refl _ _).alloc (Nat.le_refl _) _
       have hrb2:=hrb1.below hba hzw
       have hown2:=Kit.owns_below (Kit.owns_below HOwn.out hb1 (Nat.le_refl _)) hba (Nat.le_refl _)
       have hbl2:=belows hbl1 hba hbl1.size
       obtain ⟨W,hW⟩ : ∃ W,W = w1.alloc (.cells #[.int .i64 k,.string ⟨m.toArray⟩] 132):=⟨_,rfl⟩
       rw [← hW] at hcl hrb2 hown2 hbl2 ⊢
       obtain ⟨p0,p1,q0,q1⟩:=hrb2.facts
       have c0 : W.cell? ⟨w1.heap.size,0,none⟩ = some (.int .i64 k):=by simp [World.cell?,hcl]
       have c1 : W.cell? ⟨w1.heap.size,1,none⟩ = some (.string ⟨m.toArray⟩):=by simp [World.cell?,hcl]
       have HO2:=hid hown2
       have HB2:=hid hbl2
       have hne3 : ¬ w.heap.size = w1.heap.size:=by omega
       clear hW hba hcl hrb2 hown2 hbl2 hb1 hrb1 hbl1 b0 b1 f0 f1 hrb hbl
       go_region
       go_wp2
       refine bodyPost_ret (v:=.tuple #[.slice sa xs.length sc,.agg #[.int .i64 k,.string ⟨m.toArray⟩],.int .i64 0]) (by simp [results,Tryz.results117,go_sem,p0,p1]) rfl ⟨_,by rw [← HM.out],?_,?_⟩
       ·rw [← HM.out]
        exact own_mono (Kit.owns_below (Kit.owns_grown (Kit.owns_grown HO2.out (set_grown _ w.heap.size 0 (.int .i64 k)) (by omega)) (set_grown _ w.heap.size 1 (.string ⟨m.toArray⟩)) (by omega)) ((Below.refl _ _).drew) (Nat.le_refl _)) (by omega)
       ·have hx:=HB2.out
        exact BLw
      ·rw [if_neg hn] at hm
       have HM:=hid hm
       have hne2 : ((p : Int) + 1 + n != (s.size : Int)) = true:=by simp;omega
       clear hm HR0 hV hbx hr hc hdr hown hmd hrd hrl hlen hn
       go_wp2_with (go_at_call 158;refine (HR.out _).mono ?_;rintro e w1 ⟨rfl,hb1⟩;have hz3:=hb1.size;have hrb1:=hrb.below hb1 hrs;obtain ⟨b0,b1,f0,f1⟩:=hrb1.facts;have hzw : w.heap.size < w1.heap.size:=(by omega);have hbl1:=belows hbl hb1 hbl.size)
       exact bodyPost_ret (v:=.tuple #[.slice none 0 0,.agg #[.int .i64 0,.string ⟨#[]⟩],.int .i64 20]) (by simp [results,Tryz.results117,go_sem,b0,b1,hzw]) rfl ⟨_,by rw [← HM.out];rfl,by rw [← HM.out];exact nilT _ _,BLw⟩
   ·have hcd : ((s[p].toNat : Int) != 41) = true:=by (have hx : ((s[p].toNat : Int) == 41) = false:=u8_ne hc);rw [bne,hx];rfl
    have HR0:=fun W=>HRd.out p W
    unfold RrPost rrOut at HR0
    rw [ext_drop] at HR0
    have hm:=hmd.out
    cases hrd : Ds.rd ((Ds.bl s).drop p) with
    | none =>
     rw [hrd] at HR0
     rw [hdr] at hrd hm
     rw [Ds.mdA_bad hc hrd] at hm
     dsimp only at HR0
     unfold tyV at HR0
     have HR:=hid HR0
     have HM:=hid hm
     clear HR0 hm hmd hdr hc hrd hown
     go_wp2_with (go_at_call 158;refine (HR.out _).mono ?_;rintro e w1 ⟨rfl,hb1⟩;have hz3:=hb1.size;have hrb1:=hrb.below hb1 hrs;obtain ⟨b0,b1,f0,f1⟩:=hrb1.facts;have hzw : w.heap.size < w1.heap.size:=(by omega);have hbl1:=belows hbl hb1 hbl.size)
     exact bodyPost_ret (v:=.tuple #[.slice none 0 0,.agg #[.int .i64 0,.string ⟨#[]⟩],.int .i64 20]) (by simp [results,Tryz.results117,go_sem,b0,b1,hzw]) rfl ⟨_,by rw [← HM.out];rfl,by rw [← HM.out];exact nilT _ _,BLw⟩
    | some y =>
     obtain ⟨k,m,n⟩:=y
     have hrl:=Ds.rd_len hrd
     rw [List.length_drop,bl_len] at hrl
     rw [hrd] at HR0
     rw [hdr] at hrd hm
     rw [Ds.mdA_step hc hrd,← hdr,List.drop_drop] at hm
     dsimp only at HR0
     unfold tyV at HR0
     have HR:=hid HR0
     have HM:=hid hm
     have hn0 : ((n : Int) == 0) = false:=by rw [beq_eq_false_iff_ne];omega
     have hpn : IntKind.i64.wrap ((p : Int) + n) = (p : Int) + n:=IntWalk.i64_in _ (by omega)
     clear HR0 hm hmd hdr hc hrd
     go_wp2_with (first
      | (go_at_call 158;refine (HR.out _).mono ?_;rintro e w1 ⟨rfl,hb1⟩;have hz3:=hb1.size;have hrb1:=hrb.below hb1 hrs;obtain ⟨b0,b1,f0,f1⟩:=hrb1.facts;have hzw : w.heap.size < w1.heap.size:=(by omega);have hbl1:=belows hbl hb1 hbl.size)
      | (at_builtin;refine wpList_append_own _ rfl (.tmp 43) (.tmp 45) 137 rfl (w.heap.size + 1) 132 i0 _ 2 24 Tryz.underlying137 hi hz0 hz1 hz2 rfl (by decide) _ xs.length (xs.flatMap tyC) rfl (((Kit.owns_below hown hb1 (Nat.le_refl _)).alloc _).alloc _) ⟨w1.heap.size + 1,0,none⟩ 1 1 [.int .i64 k,.string ⟨m.toArray⟩] rfl rfl ?_ (ones_ty _ _) (by unfold maxLen;omega) (by omega) (by simp only [World.size_alloc];omega) ?_))
     ·intro j u hj
      match j,hj with
      | 0,hj=>simp at hj;subst hj;simp [Addr.add,go_sem]
      | 1,hj=>simp at hj;subst hj;simp [Addr.add,go_sem]
     ·intro v' w3 ho3 hg3 _
      have hbA : Below wr.heap.size wr ((w1.alloc (.cells #[.int .i64 k,.string ⟨m.toArray⟩] 132)).alloc (.cells #[.int .i64 k,.string ⟨m.toArray⟩] 132)):=(hb1.alloc hz3 _).alloc (by simp only [World.size_alloc];omega) _
      have hrb3:=(hrb.below hbA hrs).grown hg3 (own_block hown (by omega))
      have hbl3 : Below w.heap.size w w3:=Kit.below_grown (belows hbl hbA hbl.size) hg3 (by simp only [World.size_alloc];omega) (fun j e=>by have:=Kit.own_base hown j e;omega)
      have hown3 : OwnT w3 (w.heap.size + 1) v' (xs ++ [(k,m)]):=by
       unfold OwnT
       rw [List.length_append,List.flatMap_append]
       simpa [tyC] using ho3
      have HX:=hid (And.intro hown3 (And.intro hrb3 hbl3))
      clear hown3 hrb3 hbl3 ho3 hg3 hbA hb1 hrb1 hbl1
      go_wp2
      go_roundw
      case rel=>exact ⟨xs ++ [(k,m)],p + n,f,by go_num,by omega,by omega,HX.out.1,HX.out.2.1,HX.out.2.2,by omega,by rw [List.length_append,List.length_singleton];omega,HM⟩
      case measure=>simp [intOf];omega
  ·obtain rfl : p = s.size:=by omega
   have hm:=hmd.out
   rw [List.drop_eq_nil_of_le (Nat.le_of_eq (bl_len s)),Ds.mdA_nil] at hm
   have HM:=hid hm
   obtain ⟨b0,b1,f0,f1⟩:=hrb.facts
   clear hm hmd hown
   go_wp2
   exact bodyPost_ret (v:=.tuple #[.slice none 0 0,.agg #[.int .i64 0,.string ⟨#[]⟩],.int .i64 20]) (by simp [results,Tryz.results117,go_sem,b0,b1]) rfl ⟨_,by rw [← HM.out];rfl,by rw [← HM.out];exact nilT _ _,BLw⟩
theorem rmethod_any (s : ByteArray) (w : World) : Calls Tryz.prog 117 #[.string s] w (RmP (mdOut (Ds.bl s)) w):=by
 rw [mdOut_fin,bl_len]
 by_cases h : 255 < s.size
 ·rw [if_pos h]
  have:=rmethod_refuse s w (.inl h)
  rwa [if_pos h] at this
 ·rw [if_neg h]
  cases hb : Ds.bl s with
  | nil =>
   have:=rmethod_refuse s w (.inr ⟨by omega,.inl hb⟩)
   rwa [if_neg h] at this
  | cons c l =>
   by_cases hc : c = 40
   ·subst hc
    rw [← hb]
    exact rmethod_open s l w hb (by omega)
   ·have:=rmethod_refuse s w (.inr ⟨by omega,.inr ⟨c,l,hb,hc⟩⟩)
    rw [if_neg h] at this
    have e : finO (Ds.md (c :: l)) = badO 20:=by unfold Ds.md;dsimp only;rw [if_neg hc];rfl
    rw [e]
    exact this
theorem argsF_len : ∀ (f : Nat) (l : List UInt8) (a : List Ds.Ty) (r : List UInt8),Ds.argsF f l = some (a,r) → a.length ≤ l.length
 | 0,_,_,_,h=>by cases h
 | _ + 1,[],_,_,h=>by cases h
 | f + 1,c :: l,a,r,h=>by
  unfold Ds.argsF at h
  split at h
  ·simp only [Option.some.injEq,Prod.mk.injEq] at h
   obtain ⟨rfl,-⟩:=h
   simp
  ·cases hr : Ds.rd (c :: l) with
   | none=>rw [hr] at h;cases h
   | some x =>
    obtain ⟨k,m,n⟩:=x
    rw [hr] at h
    dsimp only at h
    have hl:=Ds.rd_len hr
    cases hg : Ds.argsF f ((c :: l).drop n) with
    | none=>rw [hg] at h;cases h
    | some x =>
     obtain ⟨a',r'⟩:=x
     rw [hg] at h
     simp only [Option.some.injEq,Prod.mk.injEq] at h
     obtain ⟨rfl,-⟩:=h
     have:=argsF_len f _ _ _ hg
     rw [List.length_drop] at this
     rw [List.length_cons]
     omega
theorem mdOut_len {s : List UInt8} {a : List Ds.Ty} {r : Ds.Ty} {er : Int} (h : mdOut s = (a,r,er)) : a.length ≤ 140737488355328:=by
 unfold mdOut at h
 split at h
 ·simp only [Prod.mk.injEq] at h
  obtain ⟨rfl,-⟩:=h
  simp
 ·rename_i hs
  split at h
  ·rename_i x xs y hm
   simp only [Prod.mk.injEq] at h
   obtain ⟨rfl,-,-⟩:=h
   cases s with
   | nil=>cases hm
   | cons c l =>
    unfold Ds.md at hm
    dsimp only at hm
    split at hm
    ·unfold Ds.mdA at hm
     cases hg : Ds.argsF (l.length + 1) l with
     | none=>rw [hg] at hm;cases hm
     | some x =>
      obtain ⟨a',r'⟩:=x
      rw [hg] at hm
      dsimp only at hm
      unfold Ds.retM at hm
      cases hr : Ds.retF r' with
      | none=>rw [hr] at hm;cases hm
      | some x =>
       obtain ⟨y',s'⟩:=x
       rw [hr] at hm
       simp only [Option.some.injEq,Prod.mk.injEq,List.nil_append] at hm
       obtain ⟨rfl,-,-⟩:=hm
       have:=argsF_len _ _ _ _ hg
       rw [List.length_cons] at hs
       omega
    ·cases hm
  ·simp only [Prod.mk.injEq] at h
   obtain ⟨rfl,-⟩:=h
   simp
end Go.Proofs.YtnojgiflgmnjlaaGreatDoor.L2
namespace Go.Proofs.YtnojgiflgmnjlaaGreatDoor.L2
open Go.RowKit
def FdPost (s : ByteArray) (w : World) (e : Ending) (w' : World) : Prop:=e = .returned (.tuple #[tyV (fdOut (Ds.bl s)).1.1 (fdOut (Ds.bl s)).1.2,.int .i64 (fdOut (Ds.bl s)).2]) ∧ Below w.heap.size w w'
set_option maxHeartbeats 400000 in
theorem rfield_any (s : ByteArray) (w : World) : Calls Tryz.prog 115 #[.string s] w (FdPost s w):=by
 unfold FdPost fdOut
 rw [bl_len]
 by_cases hs : 255 < s.size
 ·rw [if_pos hs]
  unfold tyV
  have hd : decide (255 < (s.size : Int)) = true:=by simp;omega
  clear hs
  go_enter Tryz.func115,Tryz.ntmps115
  go_wp2
  exact bodyPost_ret (v:=.tuple #[.agg #[.int .i64 0,.string ⟨#[]⟩],.int .i64 3]) (by simp [results,Tryz.results115,go_sem]) rfl ⟨rfl,BLw⟩
 ·rw [if_neg hs]
  have hd : decide (255 < (s.size : Int)) = false:=by simp;omega
  have HR0:=fun W=>rread_any _ s W rfl (by omega)
  unfold RrPost rrOut at HR0
  cases hr : Ds.rd (Ds.bl s) with
  | none =>
   rw [hr] at HR0
   dsimp only at HR0 ⊢
   unfold tyV at HR0 ⊢
   have HR:=hid HR0
   clear HR0 hr hs
   go_enter Tryz.func115,Tryz.ntmps115
   go_wp2_with (go_at_call 158;refine (HR.out _).mono ?_;rintro e w1 ⟨rfl,hb1⟩;obtain ⟨hcc,hff⟩:=bcell hb1;have hz1:=hb1.size;simp only [World.size_alloc] at hz1;have hz2 : w.heap.size < w1.heap.size:=(by omega))
   have hA:=belows (B:=w.heap.size) (a:=w) BLw hb1 (by simp)
   exact bodyPost_ret (v:=.tuple #[.agg #[.int .i64 0,.string ⟨#[]⟩],.int .i64 20]) (by simp [results,Tryz.results115,go_sem,hcc,hz2]) rfl ⟨rfl,BLw⟩
  | some y =>
   obtain ⟨k,m,n⟩:=y
   have hn:=Ds.rd_len hr
   rw [hr] at HR0
   dsimp only at HR0 ⊢
   unfold tyV at HR0
   have HR:=hid HR0
   have hn0 : ((n : Int) == 0) = false:=by rw [beq_eq_false_iff_ne];omega
   by_cases hns : n = s.size
   ·rw [if_pos hns]
    unfold tyV
    have hne : ((n : Int) != (s.size : Int)) = false:=by simp;omega
    clear HR0 hr hs hn hns
    go_enter Tryz.func115,Tryz.ntmps115
    go_wp2_with (go_at_call 158;refine (HR.out _).mono ?_;rintro e w1 ⟨rfl,hb1⟩;obtain ⟨hcc,hff⟩:=bcell hb1;have hz1:=hb1.size;simp only [World.size_alloc] at hz1;have hz2 : w.heap.size < w1.heap.size:=(by omega))
    have hA:=belows (B:=w.heap.size) (a:=w) BLw hb1 (by simp)
    exact bodyPost_ret (v:=.tuple #[.agg #[.int .i64 k,.string ⟨m.toArray⟩],.int .i64 0]) (by simp [results,Tryz.results115,go_sem,hcc,hz2]) rfl ⟨rfl,BLw⟩
   ·rw [if_neg hns]
    unfold tyV
    have hne : ((n : Int) != (s.size : Int)) = true:=by simp;omega
    clear HR0 hr hs hn hns
    go_enter Tryz.func115,Tryz.ntmps115
    go_wp2_with (go_at_call 158;refine (HR.out _).mono ?_;rintro e w1 ⟨rfl,hb1⟩;obtain ⟨hcc,hff⟩:=bcell hb1;have hz1:=hb1.size;simp only [World.size_alloc] at hz1;have hz2 : w.heap.size < w1.heap.size:=(by omega))
    have hA:=belows (B:=w.heap.size) (a:=w) BLw hb1 (by simp)
    exact bodyPost_ret (v:=.tuple #[.agg #[.int .i64 0,.string ⟨#[]⟩],.int .i64 20]) (by simp [results,Tryz.results115,go_sem,hcc,hz2]) rfl ⟨rfl,BLw⟩
end Go.Proofs.YtnojgiflgmnjlaaGreatDoor.L2
namespace Go.Proofs.YtnojgiflgmnjlaaGreatDoor.L2
open Go.RowKit
theorem memberName_any (s : ByteArray) (w : World) :
  Calls Tryz.prog 147 #[.string s] w fun e w'=>e = .returned (.int .i64 (memE (Ds.bl s))) ∧ Below w.heap.size w w':=by
 unfold memE
 rw [bl_len]
 by_cases h1 : 255 < s.size
 ·rw [if_pos h1]
  have hd : decide (255 < (s.size : Int)) = true:=by simp;omega
  go_enter Tryz.func147,Tryz.ntmps147
  go_wp2
  go_ret
  exact ⟨rfl,BLw⟩
 ·rw [if_neg h1]
  have hd : decide (255 < (s.size : Int)) = false:=by simp;omega
  have HC:=isPart_any s w (by unfold maxLen;omega)
  by_cases hi : Ds.bl s = initL
  ·rw [if_pos (.inr hi)]
   have hq : (s.toList == [60,105,110,105,116,62]) = true:=by rw [beq_iff_eq,str_eq];exact hi
   clear hi HC
   go_enter Tryz.func147,Tryz.ntmps147
   go_wp2
   go_ret
   exact ⟨rfl,BLw⟩
  ·have hq : (s.toList == [60,105,110,105,116,62]) = false:=by rw [beq_eq_false_iff_ne,ne_eq,str_eq];exact hi
   cases hp : Ds.partB (Ds.bl s) with
   | true =>
    rw [if_pos (.inl rfl)]
    rw [hp] at HC
    have HC2:=hid HC
    clear HC hp hi
    go_enter Tryz.func147,Tryz.ntmps147
    go_wp2_with (go_at_call 123;refine HC2.out.mono ?_;rintro e w1 ⟨rfl,rfl⟩)
    go_ret
    exact ⟨rfl,BLw⟩
   | false =>
    rw [if_neg (by simp [hi])]
    rw [hp] at HC
    have HC2:=hid HC
    clear HC hp hi
    go_enter Tryz.func147,Tryz.ntmps147
    go_wp2_with (go_at_call 123;refine HC2.out.mono ?_;rintro e w1 ⟨rfl,rfl⟩)
    go_ret
    exact ⟨rfl,BLw⟩
theorem rmemberName_any (s : ByteArray) (w : World) :
  Calls Tryz.prog 157 #[.string s] w fun e w'=>e = .returned (.int .i64 (memE (Ds.bl s))) ∧ Below w.heap.size w w':=by
 unfold memE
 rw [bl_len]
 by_cases h1 : 255 < s.size
 ·rw [if_pos h1]
  have hd : decide (255 < (s.size : Int)) = true:=by simp;omega
  go_enter Tryz.func157,Tryz.ntmps157
  go_wp2
  go_ret
  exact ⟨rfl,BLw⟩
 ·rw [if_neg h1]
  have hd : decide (255 < (s.size : Int)) = false:=by simp;omega
  have HC:=rpart_any s w (by unfold maxLen;omega)
  cases hp : Ds.partB (Ds.bl s) with
  | true =>
   rw [if_pos (.inl rfl)]
   rw [hp] at HC
   have HC2:=hid HC
   clear HC hp
   go_enter Tryz.func157,Tryz.ntmps157
   go_wp2_with (go_at_call 164;refine HC2.out.mono ?_;rintro e w1 ⟨rfl,hb1⟩)
   go_ret
   exact ⟨rfl,hb1⟩
  | false =>
   rw [hp] at HC
   have HC2:=hid HC
   clear HC hp
   by_cases hi : Ds.bl s = initL
   ·rw [if_pos (.inr hi)]
    have hq : (s.toList == [60,105,110,105,116,62]) = true:=by rw [beq_iff_eq,str_eq];exact hi
    clear hi
    go_enter Tryz.func157,Tryz.ntmps157
    go_wp2_with (go_at_call 164;refine HC2.out.mono ?_;rintro e w1 ⟨rfl,hb1⟩)
    go_ret
    exact ⟨rfl,hb1⟩
   ·rw [if_neg (by simp [hi])]
    have hq : (s.toList == [60,105,110,105,116,62]) = false:=by rw [beq_eq_false_iff_ne,ne_eq,str_eq];exact hi
    clear hi
    go_enter Tryz.func157,Tryz.ntmps157
    go_wp2_with (go_at_call 164;refine HC2.out.mono ?_;rintro e w1 ⟨rfl,hb1⟩)
    go_ret
    exact ⟨rfl,hb1⟩
end Go.Proofs.YtnojgiflgmnjlaaGreatDoor.L2
namespace Go.Proofs.YtnojgiflgmnjlaaGreatDoor.L2
open Go.RowKit
set_option maxHeartbeats 400000 in
theorem rslots_any (l : List Ds.Ty) (v : Value) (w : World) (hv : Kit.IsS 2 w v l.length (l.flatMap tyC)) :
  Calls Tryz.prog 118 #[v] w fun e w'=>e = .returned (.int .i64 (slotsOf l)) ∧ Below w.heap.size w w':=by
 have HV:=hid hv
 obtain ⟨a,cap,hv2⟩:=hv.len
 subst hv2
 have hlen:=hv.2.1
 clear hv
 go_enter Tryz.func118,Tryz.ntmps118
 go_wp2
 go_loopw [3,4] (fun n i wr=>∃ k : Nat,k ≤ l.length ∧ i = .int .i64 k ∧ n = .int .i64 ((l.length : Int) + longs (l.take k)) ∧ Below w.heap.size w wr) (fun _ i _=>l.length - (intOf i).toNat)
 case atStart=>exact ⟨0,by omega,rfl,rfl,BLw⟩
 case round =>
  obtain ⟨k,hk,rfl,rfl,hbl⟩:=hrel
  have hbz:=hbl.size
  by_cases hlt : k < l.length
  ·obtain ⟨x,hx⟩ : ∃ x,l[k]? = some x:=⟨l[k],List.getElem?_eq_getElem hlt⟩
   obtain ⟨b,o,cap',hv,hb,c0,c1⟩:=ty_at (HV.out.below hbl (Nat.le_refl _)) hx
   obtain ⟨rfl,-,rfl⟩:=Value.slice.inj hv
   have HStep:=hid (longs_step hx)
   have hlg:=longs_le (l.take k)
   rw [List.length_take] at hlg
   obtain ⟨c,hc⟩ : ∃ c,c = longs (l.take k):=⟨_,rfl⟩
   rw [← hc] at hlg HStep ⊢
   obtain ⟨xk,xm⟩:=x
   dsimp only at c0 c1 HStep
   have hlt' : (k : Int) < l.length:=by omega
   clear hx hv hc
   by_cases h2 : xk = 2
   ·subst h2
    have HS:=hid (show longs (l.take (k + 1)) = c + 1 from HStep.out)
    clear HStep
    go_wp2
    go_roundw
    case rel=>exact ⟨k + 1,by omega,by go_num,by rw [HS.out];go_num,BLw⟩
    case measure=>simp [intOf];omega
   ·have h2' : (xk == 2) = false:=by simpa using h2
    have HS0:=HStep.out
    rw [h2',if_neg (by simp)] at HS0
    have HS:=hid HS0
    clear HS0
    clear HStep h2
    go_wp2
    go_roundw
    case rel=>exact ⟨k + 1,by omega,by go_num,by rw [HS.out];go_num,BLw⟩
    case measure=>simp [intOf];omega
  ·obtain rfl : k = l.length:=by omega
   rw [List.take_length]
   have HS:=hid (show slotsOf l = (l.length : Int) + longs l from rfl)
   go_wp2
   go_ret
   exact ⟨by rw [HS.out];rfl,BLw⟩
end Go.Proofs.YtnojgiflgmnjlaaGreatDoor.L2
namespace Go.Proofs.YtnojgiflgmnjlaaGreatDoor
open Go.RowKit
namespace Cf
def FstR (R : Nat → Int → Prop) (n : Nat) (er : Int) : Prop:=(er = 0 ∧ ∀ k,k < n → R k 0) ∨ (er ≠ 0 ∧ ∃ k,k < n ∧ R k er ∧ ∀ j,j < k → R j 0)
theorem FstR.det {R : Nat → Int → Prop} {n : Nat} {e e' : Int} (hR : ∀ k x y,R k x → R k y → x = y) (h : FstR R n e) (h' : FstR R n e') : e = e':=by
 rcases h with ⟨rfl,h⟩|⟨h0,k,hk,h1,h2⟩ <;> rcases h' with ⟨rfl,h'⟩|⟨h0',k',hk',h1',h2'⟩
 ·rfl
 ·exact hR _ _ _ (h k' hk') h1'
 ·exact hR _ _ _ h1 (h' k hk)
 ·rcases Nat.lt_trichotomy k k' with hl|rfl|hl
  ·exact absurd (hR _ _ _ h1 (h2' k hl)) h0
  ·exact hR _ _ _ h1 h1'
  ·exact absurd (hR _ _ _ h1' (h2 k' hl)) h0'
theorem FstR.all {R : Nat → Int → Prop} {n : Nat} (h : ∀ k,k < n → R k 0) : FstR R n 0:=.inl ⟨rfl,h⟩
theorem FstR.at {R : Nat → Int → Prop} {n k : Nat} {er : Int} (h : ∀ j,j < k → R j 0) (hk : k < n) (h1 : R k er) (h0 : er ≠ 0) : FstR R n er:=.inr ⟨h0,k,hk,h1,h⟩
def accB (k x : Int) : Bool:=bits .andNot .i64 x k != 0
def mbO (P : List L3.Cp.C) (m : Mb) : (ByteArray × ByteArray) × Int :=
 if (L3.txO P m.nm).2 ≠ 0 then ((⟨#[]⟩,⟨#[]⟩),(L3.txO P m.nm).2) else if (L3.txO P m.ds).2 ≠ 0 then ((⟨#[]⟩,⟨#[]⟩),(L3.txO P m.ds).2)
 else (((L3.txO P m.nm).1,(L3.txO P m.ds).1),0)
def nmO (P : List L3.Cp.C) (m : Mb) : (ByteArray × ByteArray) × Int :=
 if accB 9 m.ac = true then ((⟨#[]⟩,⟨#[]⟩),42) else if (mbO P m).2 ≠ 0 then ((⟨#[]⟩,⟨#[]⟩),(mbO P m).2) else ((mbO P m).1,L2.memE (L2.Ds.bl (mbO P m).1.1))
def claE (P : List L3.Cp.C) (i : Int) : Int:=if (L3.clO P i).2 ≠ 0 then (L3.clO P i).2 else L2.nameE (L2.Ds.bl (L3.clO P i).1)
def HdIs (c : Cl) (er : Int) : Prop :=
 if verB c.mi c.ma = false then er = 41 else ∃ pk,L3.CkIs c.pool pk ∧ (if pk ≠ 0 then er = pk else if accB 33 c.ac = true then er = 42 else if claE c.pool c.th ≠ 0 then er = claE c.pool c.th
  else if claE c.pool c.su ≠ 0 then er = claE c.pool c.su else if 256 < c.fs.length ∨ 256 < c.ms.length then er = 3 else er = 0)
def ahead (P : List L3.Cp.C) (ms : List Mb) (k : Nat) : List (ByteArray × ByteArray):=(ms.take k).map fun m=>(mbO P m).1
def inB (n : ByteArray × ByteArray) (ah : List (ByteArray × ByteArray)) : Bool:=ah.any fun x=>decide (x.1 = n.1 ∧ x.2 = n.2)
def plainM (m : Mb) : Bool:=decide (m.st = 0 ∧ m.lc = 0 ∧ m.code.length = 0 ∧ m.hs.length = 0)
def initS : ByteArray:=⟨#[60,105,110,105,116,62]⟩
def fdE (P : List L3.Cp.C) (ah : List (ByteArray × ByteArray)) (m : Mb) : Int :=
 if (nmO P m).2 ≠ 0 then (nmO P m).2 else if (L2.fdOut (L2.Ds.bl (nmO P m).1.2)).2 ≠ 0 then (L2.fdOut (L2.Ds.bl (nmO P m).1.2)).2
 else if (nmO P m).1.1 = initS ∨ plainM m = false then 45 else if inB (nmO P m).1 ah = true then 5 else 0
def FdIs (P : List L3.Cp.C) (ms : List Mb) (k : Nat) (er : Int) : Prop:=∃ m,ms[k]? = some m ∧ er = fdE P (ahead P ms k) m
def begB (l : List L1.Op1.Ins) (p : Int) : Bool:=l.any fun x=>x.p == p
def hdE (P : List L3.Cp.C) (l : List L1.Op1.Ins) (n : Nat) (h : Hn) : Int :=
 if (h.f < h.t ∧ begB l h.f = true ∧ begB l h.a = true ∧ (begB l h.t = true ∨ h.t = (n : Int))) then (if h.y = 0 then 0 else claE P h.y) else 46
def HnIs (P : List L3.Cp.C) (l : List L1.Op1.Ins) (n : Nat) (hs : List Hn) (k : Nat) (er : Int) : Prop:=∃ h,hs[k]? = some h ∧ er = hdE P l n h
def CoIs (P : List L3.Cp.C) (m : Mb) (er : Int) : Prop:=∃ l d,L1.Op1.DecOut m.code l d ∧ (if d ≠ 0 then er = d else if 64 < m.hs.length then er = 3 else FstR (HnIs P l m.code.length m.hs) m.hs.length er)
def statB (m : Mb) : Bool:=bits .and .i64 m.ac 8 != 0
def frE (m : Mb) (args : List L2.Ds.Ty) : Int :=
 if m.st < 0 ∨ 64 < m.st ∨ m.lc < 0 ∨ 64 < m.lc then 3 else if m.lc < L2.slotsOf args + (if statB m = true then 0 else 1) then 45 else 0
def meIs (P : List L3.Cp.C) (ah : List (ByteArray × ByteArray)) (m : Mb) (er : Int) : Prop :=
 if (nmO P m).2 ≠ 0 then er = (nmO P m).2 else if (L2.mdOut (L2.Ds.bl (nmO P m).1.2)).2.2 ≠ 0 then er = (L2.mdOut (L2.Ds.bl (nmO P m).1.2)).2.2
 else if inB (nmO P m).1 ah = true then er = 5
 else if (nmO P m).1.1 = initS ∧ (statB m = true ∨ (L2.mdOut (L2.Ds.bl (nmO P m).1.2)).2.1.1 ≠ 0) then er = 45
 else if frE m (L2.mdOut (L2.Ds.bl (nmO P m).1.2)).1 ≠ 0 then er = frE m (L2.mdOut (L2.Ds.bl (nmO P m).1.2)).1 else CoIs P m er
def MeIs (P : List L3.Cp.C) (ms : List Mb) (k : Nat) (er : Int) : Prop:=∃ m,ms[k]? = some m ∧ meIs P (ahead P ms k) m er
def CnIs (c : Cl) (er : Int) : Prop:=∃ r b,L3.FiIs c.pool codeC r b ∧ er = if b = false ∧ 0 < c.ms.length then 43 else 0
def AskIs (c : Cl) : Nat → Int → Prop
 | 0,er=>HdIs c er
 | 1,er=>FstR (FdIs c.pool c.fs) c.fs.length er
 | 2,er=>FstR (MeIs c.pool c.ms) c.ms.length er
 | _,er=>CnIs c er
def ClIs (c : Cl) (er : Int) : Prop:=FstR (AskIs c) 4 er
theorem HdIs.det {c : Cl} {e e' : Int} (h : HdIs c e) (h' : HdIs c e') : e = e':=by
 unfold HdIs at h h'
 split at h
 ·rename_i hv;rw [if_pos hv] at h';rw [h,h']
 ·rename_i hv
  rw [if_neg hv] at h'
  obtain ⟨p,hp,h⟩:=h
  obtain ⟨p',hp',h'⟩:=h'
  obtain rfl:=L3.CkIs.det hp hp'
  (repeat' split at h) <;> simp_all
theorem FdIs.det {P : List L3.Cp.C} {ms : List Mb} (k : Nat) (x y : Int) (h : FdIs P ms k x) (h' : FdIs P ms k y) : x = y:=by
 obtain ⟨m,hm,rfl⟩:=h
 obtain ⟨m',hm',rfl⟩:=h'
 rw [hm] at hm';cases hm';rfl
theorem HnIs.det {P : List L3.Cp.C} {l : List L1.Op1.Ins} {n : Nat} {hs : List Hn} (k : Nat) (x y : Int) (h : HnIs P l n hs k x) (h' : HnIs P l n hs k y) : x = y:=by
 obtain ⟨m,hm,rfl⟩:=h
 obtain ⟨m',hm',rfl⟩:=h'
 rw [hm] at hm';cases hm';rfl
theorem CoIs.det {P : List L3.Cp.C} {m : Mb} {e e' : Int} (h : CoIs P m e) (h' : CoIs P m e') : e = e':=by
 obtain ⟨l,d,hd,h⟩:=h
 obtain ⟨l',d',hd',h'⟩:=h'
 obtain ⟨rfl,rfl⟩:=L1.Op1.DecOut.det hd hd'
 split at h
 ·rename_i h1;rw [if_pos h1] at h';rw [h,h']
 ·rename_i h1
  rw [if_neg h1] at h'
  split at h
  ·rename_i h2;rw [if_pos h2] at h';rw [h,h']
  ·rename_i h2;rw [if_neg h2] at h';exact FstR.det HnIs.det h h'
theorem meIs.det {P : List L3.Cp.C} {ah : List (ByteArray × ByteArray)} {m : Mb} {e e' : Int} (h : meIs P ah m e) (h' : meIs P ah m e') : e = e':=by
 unfold meIs at h h'
 split at h
 ·rename_i h1;rw [if_pos h1] at h';rw [h,h']
 ·rename_i h1
  rw [if_neg h1] at h'
  split at h
  ·rename_i h2;rw [if_pos h2] at h';rw [h,h']
  ·rename_i h2
   rw [if_neg h2] at h'
   split at h
   ·rename_i h3;rw [if_pos h3] at h';rw [h,h']
   ·rename_i h3
    rw [if_neg h3] at h'
    split at h
    ·rename_i h4;rw [if_pos h4] at h';rw [h,h']
    ·rename_i h4
     rw [if_neg h4] at h'
     split at h
     ·rename_i h5;rw [if_pos h5] at h';rw [h,h']
     ·rename_i h5;rw [if_neg h5] at h';exact CoIs.det h h'
theorem MeIs.det {P : List L3.Cp.C} {ms : List Mb} (k : Nat) (x y : Int) (h : MeIs P ms k x) (h' : MeIs P ms k y) : x = y:=by
 obtain ⟨m,hm,h⟩:=h
 obtain ⟨m',hm',h'⟩:=h'
 rw [hm] at hm';cases hm';exact meIs.det h h'
theorem CnIs.det {c : Cl} {e e' : Int} (h : CnIs c e) (h' : CnIs c e') : e = e':=by
 obtain ⟨r,b,hf,rfl⟩:=h
 obtain ⟨r',b',hf',rfl⟩:=h'
 obtain ⟨rfl,rfl⟩:=L3.FiIs.det hf hf'
 rfl
theorem AskIs.det {c : Cl} (k : Nat) (x y : Int) (h : AskIs c k x) (h' : AskIs c k y) : x = y:=by
 match k,h,h' with
 | 0,h,h'=>exact HdIs.det h h'
 | 1,h,h'=>exact FstR.det FdIs.det h h'
 | 2,h,h'=>exact FstR.det MeIs.det h h'
 | _ + 3,h,h'=>exact CnIs.det h h'
theorem ClIs.det {c : Cl} {e e' : Int} (h : ClIs c e) (h' : ClIs c e') : e = e':=FstR.det AskIs.det h h'
end Cf
end Go.Proofs.YtnojgiflgmnjlaaGreatDoor
namespace Go.Proofs.YtnojgiflgmnjlaaGreatDoor.Cf
open Go.RowKit
def DcIs (bs : List UInt8) (c : Cl) (er : Int) : Prop:=if 65536 < bs.length then c = K0 ∧ er = 3 else match clP bs with
 | .error e=>c = K0 ∧ er = e
 | .ok (d,_)=>∃ e,ClIs d e ∧ (if e = 0 then c = d ∧ er = 0 else c = K0 ∧ er = e)
theorem DcIs.det {bs : List UInt8} {c d : Cl} {e f : Int} (h : DcIs bs c e) (k : DcIs bs d f) : c = d ∧ e = f:=by
 unfold DcIs at h k
 split at h
 ·rename_i h1;rw [if_pos h1] at k;exact ⟨h.1.trans k.1.symm,h.2.trans k.2.symm⟩
 ·rename_i h1
  rw [if_neg h1] at k
  cases hx : clP bs with
  | error er=>rw [hx] at h k;exact ⟨h.1.trans k.1.symm,h.2.trans k.2.symm⟩
  | ok y =>
   rw [hx] at h k
   obtain ⟨e1,he,h⟩:=h
   obtain ⟨e2,ke,k⟩:=k
   obtain rfl:=ClIs.det he ke
   split at h
   ·rename_i h2;rw [if_pos h2] at k;exact ⟨h.1.trans k.1.symm,h.2.trans k.2.symm⟩
   ·rename_i h2;rw [if_neg h2] at k;exact ⟨h.1.trans k.1.symm,h.2.trans k.2.symm⟩
def w2 (n : Int) : List Int:=[n / 256 % 256,n % 256]
def w4 (n : Int) : List Int:=w2 (n / 65536) ++ w2 n
theorem w2_len (n : Int) : (w2 n).length = 2:=rfl
theorem w4_len (n : Int) : (w4 n).length = 4:=rfl
def cB (l : List UInt8) : List Int:=l.map fun c=>(c.toNat : Int)
def hnB (h : Hn) : List Int:=w2 h.f ++ w2 h.t ++ w2 h.a ++ w2 h.y
def fdB (m : Mb) : List Int:=w2 m.ac ++ w2 m.nm ++ w2 m.ds ++ w2 0
def attrB (m : Mb) : List Int:=w2 m.st ++ w2 m.lc ++ w4 m.code.length ++ cB m.code ++ w2 m.hs.length ++ m.hs.flatMap hnB ++ w2 0
def meB (code : Nat) (m : Mb) : List Int:=w2 m.ac ++ w2 m.nm ++ w2 m.ds ++ w2 1 ++ w2 code ++ w4 (attrB m).length ++ attrB m
def clB (c : Cl) : List Int:=w4 3405691582 ++ w2 c.mi ++ w2 c.ma ++ L3.putB c.pool ++ w2 c.ac ++ w2 c.th ++ w2 c.su ++ w2 0 ++ w2 c.fs.length ++ c.fs.flatMap fdB ++ w2 c.ms.length ++ c.ms.flatMap (meB (cix c.pool)) ++ w2 0
theorem cix_fi (P : List L3.Cp.C) : L3.FiIs P codeC (cix P) (decide (cix P ≠ 0)):=by
 unfold cix
 cases h : (P.drop 1).findIdx? (fun c=>c == codeC) with
 | none =>
  refine .inl ⟨by simp,rfl,fun j hj _ he=>?_⟩
  rw [List.findIdx?_eq_none_iff] at h
  have:=h codeC (by
   rw [List.mem_iff_getElem?]
   exact ⟨j - 1,by rw [List.getElem?_drop,show 1 + (j - 1) = j by omega];exact he⟩)
  simp at this
 | some j =>
  rw [List.findIdx?_eq_some_iff_getElem] at h
  obtain ⟨hlt,h1,h2⟩:=h
  refine .inr ⟨by simp,by simp,by decide,?_,fun i hi hij he=>?_⟩
  ·show P[j + 1]? = some codeC
   have h3:=List.getElem?_eq_getElem hlt
   rw [List.getElem?_drop,Nat.add_comm] at h3
   rw [h3,eq_of_beq h1]
  ·have hij' : i < j + 1:=hij
   have h3:=h2 (i - 1) (by omega)
   have h4 : (P.drop 1)[i - 1]? = some codeC:=by rw [List.getElem?_drop,show 1 + (i - 1) = i by omega];exact he
   rw [List.getElem?_eq_some_iff] at h4
   obtain ⟨h5,h6⟩:=h4
   rw [h6] at h3
   simp at h3
theorem fi_cix {P : List L3.Cp.C} {r : Nat} {b : Bool} (h : L3.FiIs P codeC r b) : r = cix P ∧ b = decide (cix P ≠ 0):=L3.FiIs.det h (cix_fi P)
end Go.Proofs.YtnojgiflgmnjlaaGreatDoor.Cf
namespace Go.Proofs.YtnojgiflgmnjlaaGreatDoor
open Go.RowKit
theorem belows1 {w w1 : World} {c : Array Value} {T : TypeId} (hb : Below (w.alloc (.cells c T)).heap.size (w.alloc (.cells c T)) w1) : L3.BX w1 w.heap.size c T ∧ w.heap.size + 1 ≤ w1.heap.size ∧ Below w.heap.size w w1:=by
 have hz:=hb.size
 simp only [World.size_alloc] at hz
 exact ⟨(L3.BX.new w c T).below hb (by simp),hz,belows ((Below.refl _ w).alloc (Nat.le_refl _) _) hb (by simp)⟩
theorem boxes2 {w w1 : World} {c m : Array Value} {T U : TypeId} (hb : Below ((w.alloc (.cells c T)).alloc (.cells m U)).heap.size ((w.alloc (.cells c T)).alloc (.cells m U)) w1) :
  L3.BX w1 w.heap.size c T ∧ L3.BX w1 (w.heap.size + 1) m U ∧ w.heap.size + 1 + 1 ≤ w1.heap.size ∧ Below w.heap.size w w1:=by
 obtain ⟨h1,h2,h3⟩:=belows1 hb
 simp only [World.size_alloc] at h1 h2 h3
 obtain ⟨k1,k2,k3⟩:=belows1 (w:=w) (c:=c) (T:=T) (w1:=w1) (by simpa using h3)
 exact ⟨k1,h1,h2,k3⟩
theorem boxes3 {w w1 : World} {c m n : Array Value} {T U V : TypeId} (hb : Below (((w.alloc (.cells c T)).alloc (.cells m U)).alloc (.cells n V)).heap.size (((w.alloc (.cells c T)).alloc (.cells m U)).alloc (.cells n V)) w1) :
  L3.BX w1 w.heap.size c T ∧ L3.BX w1 (w.heap.size + 1) m U ∧ L3.BX w1 (w.heap.size + 1 + 1) n V ∧ w.heap.size + 1 + 1 + 1 ≤ w1.heap.size ∧ Below w.heap.size w w1:=by
 obtain ⟨h1,h2,h3⟩:=belows1 hb
 simp only [World.size_alloc] at h1 h2 h3
 obtain ⟨k1,k2,k3,k4⟩:=boxes2 (w:=w) (c:=c) (m:=m) (T:=T) (U:=U) (w1:=w1) (by simpa using h3)
 exact ⟨k1,k2,h1,h2,k4⟩
theorem isVersion_any (mi ma : Int) (w : World) : Calls Tryz.prog 99 #[.int .i64 mi,.int .i64 ma] w fun e w'=>e = .returned (.bool (Cf.verB mi ma)) ∧ w = w':=by
 unfold Cf.verB
 go_enter Tryz.func99,Tryz.ntmps99
 go_wp2
 all_goals go_ret
 all_goals exact ⟨by first|(simp [*];done)|(simp [*];intros;omega),rfl⟩
theorem rversion_any (mi ma : Int) (w : World) : Calls Tryz.prog 38 #[.int .i64 mi,.int .i64 ma] w fun e w'=>e = .returned (.bool (Cf.verB mi ma)) ∧ w = w':=by
 unfold Cf.verB
 go_enter Tryz.func38,Tryz.ntmps38
 go_wp2
 all_goals go_ret
 all_goals exact ⟨by first|(simp [*];done)|(simp [*];intros;omega),rfl⟩
theorem checkClassAt_any (P : List L3.Cp.C) (i : Int) (v : Value) (w : World) (hv : Kit.IsS 5 w v P.length (P.flatMap L3.cL)) :
  Calls Tryz.prog 102 #[v,.int .i64 i] w fun e w'=>e = .returned (.int .i64 (Cf.claE P i)) ∧ Below w.heap.size w w':=by
 have HC0:=fun W (h : Below w.heap.size w W)=>L3.class_at P i v W (hv.below h (Nat.le_refl _))
 unfold Cf.claE
 obtain ⟨⟨s,er⟩,hx⟩ : ∃ x,x = L3.clO P i:=⟨_,rfl⟩
 rw [← hx] at HC0 ⊢
 have HC:=hid HC0
 have HN:=hid (fun W=>L2.className_any s W)
 obtain ⟨a,cap,rfl⟩:=hv.len
 clear HC0 hv hx
 dsimp only
 by_cases h : er = 0
 ·subst h
  rw [if_neg (by decide)]
  go_enter Tryz.func102,Tryz.ntmps102
  go_wp2_with (first
   | (go_at_call 61;(with_reducible refine (HC.out _ BLw).mono ?_);rintro e w1 ⟨rfl,hb1⟩)
   | (go_at_call 68;refine (HN.out _).mono ?_;rintro e w2 ⟨rfl,hb2⟩))
  go_ret
  exact ⟨rfl,belows hb1 hb2 hb1.size⟩
 ·rw [if_pos h]
  have hd : (er != 0) = true:=by simpa using h
  clear h
  go_enter Tryz.func102,Tryz.ntmps102
  go_wp2_with (go_at_call 61;(with_reducible refine (HC.out _ BLw).mono ?_);rintro e w1 ⟨rfl,hb1⟩)
  go_ret
  exact ⟨rfl,hb1⟩
theorem rclass_any (c : Cf.Cl) (i : Int) (vs : Array Value) (w : World) (hv : ClR w vs c) :
  Calls Tryz.prog 58 #[.agg vs,.int .i64 i] w fun e w'=>e = .returned (.int .i64 (Cf.claE c.pool i)) ∧ Below w.heap.size w w':=by
 obtain ⟨pv,fv,mv,rfl,hp,hf,hm⟩:=hv
 have HC0:=fun W (h : Below w.heap.size w W)=>L3.rclass_at c.pool i pv W (hp.below h (Nat.le_refl _))
 unfold Cf.claE
 obtain ⟨⟨s,er⟩,hx⟩ : ∃ x,x = L3.clO c.pool i:=⟨_,rfl⟩
 rw [← hx] at HC0 ⊢
 have HC:=hid HC0
 have HN:=hid (fun W=>L2.rclassName_any s W)
 obtain ⟨a,cap,rfl⟩:=hp.len
 clear HC0 hp hx hf hm
 obtain ⟨n,hn⟩ : ∃ n,n = c.pool.length:=⟨_,rfl⟩
 rw [← hn] at HC ⊢
 clear hn
 dsimp only
 by_cases h : er = 0
 ·subst h
  rw [if_neg (by decide)]
  go_enter Tryz.func58,Tryz.ntmps58
  go_wp2_with (first
   | (go_at_call 62;(with_reducible refine (HC.out _ BLw).mono ?_);rintro e w1 ⟨rfl,hb1⟩)
   | (go_at_call 71;refine (HN.out _).mono ?_;rintro e w2 ⟨rfl,hb2⟩))
  go_ret
  have B1:=(belows1 hb1).2.2
  exact ⟨rfl,belows B1 hb2 B1.size⟩
 ·rw [if_pos h]
  have hd : (er != 0) = true:=by simpa using h
  clear h
  go_enter Tryz.func58,Tryz.ntmps58
  go_wp2_with (go_at_call 62;(with_reducible refine (HC.out _ BLw).mono ?_);rintro e w1 ⟨rfl,hb1⟩)
  go_ret
  exact ⟨rfl,(belows1 hb1).2.2⟩
def ndV (n : ByteArray × ByteArray) : Value:=.agg #[.string ⟨#[]⟩,.string n.1,.string n.2]
def mbV (m : Cf.Mb) (cv hv : Value) : Value:=.agg #[.int .i64 m.ac,.int .i64 m.nm,.int .i64 m.ds,.int .i64 m.st,.int .i64 m.lc,cv,hv]
set_option maxHeartbeats 1000000 in
theorem member_any (c : Cf.Cl) (vs : Array Value) (m : Cf.Mb) (cv hv : Value) (w : World) (h : ClR w vs c) :
  Calls Tryz.prog 24 #[.agg vs,mbV m cv hv] w fun e w'=>e = .returned (.tuple #[ndV (Cf.mbO c.pool m).1,.int .i64 (Cf.mbO c.pool m).2]) ∧ Below w.heap.size w w':=by
 obtain ⟨pv,fv,mv,rfl,hp,-,-⟩:=h
 have HA0:=fun W (h : Below w.heap.size w W)=>L3.text_at c.pool m.nm pv W (hp.below h (Nat.le_refl _))
 have HB0:=fun W (h : Below w.heap.size w W)=>L3.text_at c.pool m.ds pv W (hp.below h (Nat.le_refl _))
 unfold Cf.mbO ndV mbV
 obtain ⟨⟨s,er⟩,hx⟩ : ∃ x,x = L3.txO c.pool m.nm:=⟨_,rfl⟩
 obtain ⟨⟨t,fr⟩,hy⟩ : ∃ x,x = L3.txO c.pool m.ds:=⟨_,rfl⟩
 rw [← hx] at HA0 ⊢
 rw [← hy] at HB0 ⊢
 have HA:=hid HA0
 have HB:=hid HB0
 obtain ⟨a,cap,rfl⟩:=hp.len
 clear HA0 HB0 hp hx hy
 obtain ⟨n,hn⟩ : ∃ n,n = c.pool.length:=⟨_,rfl⟩
 rw [← hn] at HA HB ⊢
 clear hn
 dsimp only
 by_cases h : er = 0
 ·subst h
  rw [if_neg (by decide)]
  by_cases h2 : fr = 0
  ·subst h2
   rw [if_neg (by decide)]
   (go_enter Tryz.func24,Tryz.ntmps24;go_wp2_with (first|(go_at_call 63;have _g:=B1;(with_reducible refine (HB.out _ B1).mono ?_);rintro e w2 ⟨rfl,hb2⟩;have B2:=belows B1 hb2 (by omega);have bN2:=bN.below hb2 bN.sz;have hz2:=hb2.size;have n0:=bN2.cell 0;have n1:=bN2.cell 1;have n2:=bN2.cell 2;have f0:=bN2.frozen 0;have f1:=bN2.frozen 1;have f2:=bN2.frozen 2;simp at n0 n1 n2;clear hb2)|(go_at_call 63;(with_reducible refine (HA.out _ BLw).mono ?_);rintro e w1 ⟨rfl,hb1⟩;obtain ⟨bC,bM,bN,hz1,B1⟩:=boxes3 hb1;have c2:=bC.cell 2;have m2:=bM.cell 2;have n0:=bN.cell 0;have n1:=bN.cell 1;have n2:=bN.cell 2;have f0:=bN.frozen 0;have f1:=bN.frozen 1;have f2:=bN.frozen 2;simp at c2 m2 n0 n1 n2;clear bC bM hb1)))
   exact bodyPost_ret (v:=.tuple #[.agg #[.string ⟨#[]⟩,.string s,.string t],.int .i64 0]) (by simp [results,Tryz.results24,go_sem,n0,n1,n2]) rfl ⟨rfl,BLw⟩
  ·rw [if_pos h2]
   have hd : (fr != 0) = true:=by simpa using h2
   clear h2
   (go_enter Tryz.func24,Tryz.ntmps24;go_wp2_with (first|(go_at_call 63;have _g:=B1;(with_reducible refine (HB.out _ B1).mono ?_);rintro e w2 ⟨rfl,hb2⟩;have B2:=belows B1 hb2 (by omega);have bN2:=bN.below hb2 bN.sz;have hz2:=hb2.size;have n0:=bN2.cell 0;have n1:=bN2.cell 1;have n2:=bN2.cell 2;have f0:=bN2.frozen 0;have f1:=bN2.frozen 1;have f2:=bN2.frozen 2;simp at n0 n1 n2;clear hb2)|(go_at_call 63;(with_reducible refine (HA.out _ BLw).mono ?_);rintro e w1 ⟨rfl,hb1⟩;obtain ⟨bC,bM,bN,hz1,B1⟩:=boxes3 hb1;have c2:=bC.cell 2;have m2:=bM.cell 2;have n0:=bN.cell 0;have n1:=bN.cell 1;have n2:=bN.cell 2;have f0:=bN.frozen 0;have f1:=bN.frozen 1;have f2:=bN.frozen 2;simp at c2 m2 n0 n1 n2;clear bC bM hb1)))
   exact bodyPost_ret (v:=.tuple #[.agg #[.string ⟨#[]⟩,.string ⟨#[]⟩,.string ⟨#[]⟩],.int .i64 fr]) (by simp [results,Tryz.results24,go_sem,n0,n1,n2]) rfl ⟨rfl,BLw⟩
 ·rw [if_pos h]
  have hd : (er != 0) = true:=by simpa using h
  clear h
  (go_enter Tryz.func24,Tryz.ntmps24;go_wp2_with (first|(go_at_call 63;have _g:=B1;(with_reducible refine (HB.out _ B1).mono ?_);rintro e w2 ⟨rfl,hb2⟩;have B2:=belows B1 hb2 (by omega);have bN2:=bN.below hb2 bN.sz;have hz2:=hb2.size;have n0:=bN2.cell 0;have n1:=bN2.cell 1;have n2:=bN2.cell 2;have f0:=bN2.frozen 0;have f1:=bN2.frozen 1;have f2:=bN2.frozen 2;simp at n0 n1 n2;clear hb2)|(go_at_call 63;(with_reducible refine (HA.out _ BLw).mono ?_);rintro e w1 ⟨rfl,hb1⟩;obtain ⟨bC,bM,bN,hz1,B1⟩:=boxes3 hb1;have c2:=bC.cell 2;have m2:=bM.cell 2;have n0:=bN.cell 0;have n1:=bN.cell 1;have n2:=bN.cell 2;have f0:=bN.frozen 0;have f1:=bN.frozen 1;have f2:=bN.frozen 2;simp at c2 m2 n0 n1 n2;clear bC bM hb1)))
  exact bodyPost_ret (v:=.tuple #[.agg #[.string ⟨#[]⟩,.string ⟨#[]⟩,.string ⟨#[]⟩],.int .i64 er]) (by simp [results,Tryz.results24,go_sem,n0,n1,n2]) rfl ⟨rfl,BLw⟩
set_option maxHeartbeats 1000000 in
theorem rmember_any (c : Cf.Cl) (vs : Array Value) (m : Cf.Mb) (cv hv : Value) (w : World) (h : ClR w vs c) :
  Calls Tryz.prog 25 #[.agg vs,mbV m cv hv] w fun e w'=>e = .returned (.tuple #[ndV (Cf.mbO c.pool m).1,.int .i64 (Cf.mbO c.pool m).2]) ∧ Below w.heap.size w w':=by
 obtain ⟨pv,fv,mv,rfl,hp,-,-⟩:=h
 have HA0:=fun W (h : Below w.heap.size w W)=>L3.rtext_at c.pool m.nm pv W (hp.below h (Nat.le_refl _))
 have HB0:=fun W (h : Below w.heap.size w W)=>L3.rtext_at c.pool m.ds pv W (hp.below h (Nat.le_refl _))
 unfold Cf.mbO ndV mbV
 obtain ⟨⟨s,er⟩,hx⟩ : ∃ x,x = L3.txO c.pool m.nm:=⟨_,rfl⟩
 obtain ⟨⟨t,fr⟩,hy⟩ : ∃ x,x = L3.txO c.pool m.ds:=⟨_,rfl⟩
 rw [← hx] at HA0 ⊢
 rw [← hy] at HB0 ⊢
 have HA:=hid HA0
 have HB:=hid HB0
 obtain ⟨a,cap,rfl⟩:=hp.len
 clear HA0 HB0 hp hx hy
 obtain ⟨n,hn⟩ : ∃ n,n = c.pool.length:=⟨_,rfl⟩
 rw [← hn] at HA HB ⊢
 clear hn
 dsimp only
 by_cases h : er = 0
 ·subst h
  rw [if_neg (by decide)]
  by_cases h2 : fr = 0
  ·subst h2
   rw [if_neg (by decide)]
   (go_enter Tryz.func25,Tryz.ntmps25;go_wp2_with (first|(go_at_call 64;have _g:=B1;(with_reducible refine (HB.out _ B1).mono ?_);rintro e w2 ⟨rfl,hb2⟩;have B2:=belows B1 hb2 (by omega);have bN2:=bN.below hb2 bN.sz;have hz2:=hb2.size;have n0:=bN2.cell 0;have n1:=bN2.cell 1;have n2:=bN2.cell 2;have f0:=bN2.frozen 0;have f1:=bN2.frozen 1;have f2:=bN2.frozen 2;simp at n0 n1 n2;clear hb2)|(go_at_call 64;(with_reducible refine (HA.out _ BLw).mono ?_);rintro e w1 ⟨rfl,hb1⟩;obtain ⟨bC,bM,bN,hz1,B1⟩:=boxes3 hb1;have c2:=bC.cell 2;have m2:=bM.cell 2;have n0:=bN.cell 0;have n1:=bN.cell 1;have n2:=bN.cell 2;have f0:=bN.frozen 0;have f1:=bN.frozen 1;have f2:=bN.frozen 2;simp at c2 m2 n0 n1 n2;clear bC bM hb1)))
   exact bodyPost_ret (v:=.tuple #[.agg #[.string ⟨#[]⟩,.string s,.string t],.int .i64 0]) (by simp [results,Tryz.results25,go_sem,n0,n1,n2]) rfl ⟨rfl,BLw⟩
  ·rw [if_pos h2]
   have hd : (fr != 0) = true:=by simpa using h2
   clear h2
   (go_enter Tryz.func25,Tryz.ntmps25;go_wp2_with (first|(go_at_call 64;have _g:=B1;(with_reducible refine (HB.out _ B1).mono ?_);rintro e w2 ⟨rfl,hb2⟩;have B2:=belows B1 hb2 (by omega);have bN2:=bN.below hb2 bN.sz;have hz2:=hb2.size;have n0:=bN2.cell 0;have n1:=bN2.cell 1;have n2:=bN2.cell 2;have f0:=bN2.frozen 0;have f1:=bN2.frozen 1;have f2:=bN2.frozen 2;simp at n0 n1 n2;clear hb2)|(go_at_call 64;(with_reducible refine (HA.out _ BLw).mono ?_);rintro e w1 ⟨rfl,hb1⟩;obtain ⟨bC,bM,bN,hz1,B1⟩:=boxes3 hb1;have c2:=bC.cell 2;have m2:=bM.cell 2;have n0:=bN.cell 0;have n1:=bN.cell 1;have n2:=bN.cell 2;have f0:=bN.frozen 0;have f1:=bN.frozen 1;have f2:=bN.frozen 2;simp at c2 m2 n0 n1 n2;clear bC bM hb1)))
   exact bodyPost_ret (v:=.tuple #[.agg #[.string ⟨#[]⟩,.string ⟨#[]⟩,.string ⟨#[]⟩],.int .i64 fr]) (by simp [results,Tryz.results25,go_sem,n0,n1,n2]) rfl ⟨rfl,BLw⟩
 ·rw [if_pos h]
  have hd : (er != 0) = true:=by simpa using h
  clear h
  (go_enter Tryz.func25,Tryz.ntmps25;go_wp2_with (first|(go_at_call 64;have _g:=B1;(with_reducible refine (HB.out _ B1).mono ?_);rintro e w2 ⟨rfl,hb2⟩;have B2:=belows B1 hb2 (by omega);have bN2:=bN.below hb2 bN.sz;have hz2:=hb2.size;have n0:=bN2.cell 0;have n1:=bN2.cell 1;have n2:=bN2.cell 2;have f0:=bN2.frozen 0;have f1:=bN2.frozen 1;have f2:=bN2.frozen 2;simp at n0 n1 n2;clear hb2)|(go_at_call 64;(with_reducible refine (HA.out _ BLw).mono ?_);rintro e w1 ⟨rfl,hb1⟩;obtain ⟨bC,bM,bN,hz1,B1⟩:=boxes3 hb1;have c2:=bC.cell 2;have m2:=bM.cell 2;have n0:=bN.cell 0;have n1:=bN.cell 1;have n2:=bN.cell 2;have f0:=bN.frozen 0;have f1:=bN.frozen 1;have f2:=bN.frozen 2;simp at c2 m2 n0 n1 n2;clear bC bM hb1)))
  exact bodyPost_ret (v:=.tuple #[.agg #[.string ⟨#[]⟩,.string ⟨#[]⟩,.string ⟨#[]⟩],.int .i64 er]) (by simp [results,Tryz.results25,go_sem,n0,n1,n2]) rfl ⟨rfl,BLw⟩
end Go.Proofs.YtnojgiflgmnjlaaGreatDoor
namespace Go.Proofs.YtnojgiflgmnjlaaGreatDoor
open Go.RowKit
theorem A.laid : laidOutB Tryz.prog = true:=by kernel_rfl
theorem A.keyT : Tryz.prog.keyType 44 = true:=by kernel_rfl
theorem A.keyed : Maps.Keyed Tryz.prog 44:=Maps.Keyed.of_law (deep_law_laid A.laid (m:=3) (by omega) (of_decide_eq_true (by kernel_rfl)) (by kernel_rfl) (by kernel_rfl))
theorem A.tsz : ∃ k,Tryz.prog.types.size + 1 = k + 2:=⟨Tryz.prog.types.size - 1,by have : 1 ≤ Tryz.prog.types.size:=of_decide_eq_true (by kernel_rfl);omega⟩
theorem A.litsN (a b c : ByteArray) (h1 : a.size ≤ maxLen) (h2 : b.size ≤ maxLen) (h3 : c.size ≤ maxLen) : Tryz.prog.keyLits (Tryz.prog.types.size + 1) 44 [.string a,.string b,.string c] = some [.string a.data.toList,.string b.data.toList,.string c.data.toList]:=by
 obtain ⟨k,hk⟩:=A.tsz
 have c1 : Tryz.prog.cellsOf 44 = 3:=by kernel_rfl
 have c2 : Tryz.prog.cellsOf 9 = 1:=by kernel_rfl
 rw [hk]
 simp [Program.keyLits,Tryz.underlying44,Tryz.underlying9,c1,c2,h1,h2,h3]
theorem A.keyN (a b c : ByteArray) (h1 : a.size ≤ maxLen) (h2 : b.size ≤ maxLen) (h3 : c.size ≤ maxLen) : keyOf Tryz.prog 44 (.agg #[.string a,.string b,.string c]) = some (.string (keyBytes [.string a.data.toList,.string b.data.toList,.string c.data.toList])):=by
 have c1 : Tryz.prog.cellsOf 44 = 3:=by kernel_rfl
 unfold keyOf
 rw [Tryz.underlying44]
 dsimp only
 rw [if_pos (by simp [A.keyT,Value.formed,Tryz.underlying44,c1])]
 show Option.map _ (Tryz.prog.keyLits (Tryz.prog.types.size + 1) 44 [.string a,.string b,.string c]) = _
 rw [A.litsN a b c h1 h2 h3]
 rfl
theorem A.zeroUnit (w : World) : (zeroValue 178).run Tryz.prog w = .ok (.agg #[]) w:=by kernel_rfl
def kl (n : ByteArray × ByteArray) : Lit:=.string (keyBytes [.string [],.string n.1.data.toList,.string n.2.data.toList])
def Fits (n : ByteArray × ByteArray) : Prop:=n.1.size ≤ maxLen ∧ n.2.size ≤ maxLen
theorem key_of (n : ByteArray × ByteArray) (h : Fits n) : keyOf Tryz.prog 44 (ndV n) = some (kl n):=A.keyN ⟨#[]⟩ n.1 n.2 (by unfold maxLen;decide) h.1 h.2
theorem ba_eq {a b : ByteArray} (h : a.data.toList = b.data.toList) : a = b:=by
 cases a;cases b
 simp only [ByteArray.mk.injEq]
 exact Array.toList_inj.1 h
theorem kl_inj {n m : ByteArray × ByteArray} (hn : Fits n) (hm : Fits m) (h : kl n = kl m) : n = m:=by
 have h1:=A.litsN ⟨#[]⟩ n.1 n.2 (by unfold maxLen;decide) hn.1 hn.2
 have h2:=A.litsN ⟨#[]⟩ m.1 m.2 (by unfold maxLen;decide) hm.1 hm.2
 have h3:=keyLits_inj h1 h2 (Lit.string.inj h)
 simp only [List.cons.injEq,Lit.string.injEq,and_true,true_and] at h3
 exact Prod.ext (ba_eq h3.1) (ba_eq h3.2)
def NmM (w : World) (mb : Nat) (ah : List (ByteArray × ByteArray)) : Prop:=∃ D : DataW Unit,w.ownsMap Tryz.prog 44 unitElem mb ah.length D ∧ (∀ n,Fits n → Maps.has D (kl n) = Cf.inB n ah) ∧ ∀ n ∈ ah,Fits n
theorem NmM.new (w : World) : NmM (w.alloc (.map #[] 0)) w.heap.size []:=⟨.map [],World.ownsMap_made w _ _ _,fun _ _=>rfl,fun _ h=>by cases h⟩
theorem NmM.keep {w w' : World} {mb : Nat} {ah : List (ByteArray × ByteArray)} (h : NmM w mb ah) (hb : w'.heap[mb]? = w.heap[mb]?) : NmM w' mb ah:=by
 obtain ⟨D,⟨es,clock,h1,h2,h3,h4⟩,hd⟩:=h
 exact ⟨D,⟨es,clock,hb.trans h1,h2,h3,h4⟩,hd⟩
theorem NmM.lt {w : World} {mb : Nat} {ah : List (ByteArray × ByteArray)} (h : NmM w mb ah) : mb < w.heap.size:=by
 obtain ⟨D,⟨es,clock,h1,-⟩,-⟩:=h
 exact (Array.getElem?_eq_some_iff.1 h1).1
theorem inB_snoc (n m : ByteArray × ByteArray) (ah : List (ByteArray × ByteArray)) : Cf.inB n (ah ++ [m]) = (Cf.inB n ah || decide (m.1 = n.1 ∧ m.2 = n.2)):=by
 unfold Cf.inB
 rw [List.any_append]
 simp
theorem NmM.look {w : World} {mb : Nat} {ah : List (ByteArray × ByteArray)} (h : NmM w mb ah) (n : ByteArray × ByteArray) (hn : Fits n) :
  (Instr.lookup 129 (.map (some mb)) (ndV n) true).run Tryz.prog w = .ok (.tuple #[.agg #[],.bool (Cf.inB n ah)]) w:=by
 obtain ⟨D,h1,h2,-⟩:=h
 obtain ⟨v,ps,hrun,hv⟩:=h1.look_ok A.keyed Tryz.underlying129 (A.zeroUnit w) unitElem_mk (key_of n hn)
 obtain ⟨rfl,-⟩:=unitElem_inv hv
 rw [hrun,h2 n hn]
theorem NmM.put {w : World} {mb : Nat} {ah : List (ByteArray × ByteArray)} (h : NmM w mb ah) (n : ByteArray × ByteArray) (hn : Fits n) (hl : ah.length < maxLen) :
  ∃ w',(Instr.mapUpdate 129 (.map (some mb)) (ndV n) (.agg #[])).run Tryz.prog w = .ok () w' ∧ NmM w' mb (ah ++ [n]) ∧ w.grownBy w' (some mb):=by
 obtain ⟨D,h1,h2,h3⟩:=h
 obtain ⟨w',hr,ho,hg⟩:=h1.update A.keyed Tryz.underlying129 hl (key_of n hn) unitElem_mk
 refine ⟨w',hr,⟨_,by rw [List.length_append];exact ho,fun m hm=>?_,fun m hm=>?_⟩,hg⟩
 ·rw [inB_snoc]
  by_cases e : m = n
  ·subst e
   rw [Maps.has_put_same h1.isMap (by trivial) _]
   simp
  ·rw [Maps.has_put_other (fun k=>e (kl_inj hm hn k)),h2 m hm]
   have : decide (n.1 = m.1 ∧ n.2 = m.2) = false:=by
    rw [decide_eq_false_iff_not]
    exact fun k=>e (Prod.ext k.1.symm k.2.symm)
   rw [this,Bool.or_false]
 ·rcases List.mem_append.1 hm with hm|hm
  ·exact h3 m hm
  ·rw [List.mem_singleton] at hm;subst hm;exact hn
end Go.Proofs.YtnojgiflgmnjlaaGreatDoor
