/- Own texts for the claim, part 10. -/
import Derived.Test.YtnojgiflgmnjlaaGreatDoorZD9
set_option maxRecDepth 100000
namespace Go.Proofs.YtnojgiflgmnjlaaGreatDoor.L2
open Go.RowKit
theorem bl_at (s : ByteArray) (k : Nat) (h : k < s.size) : (Ds.bl s)[k]? = some s[k]:=by
 have : k < s.data.toList.length:=by simpa using h
 rw [List.getElem?_eq_getElem this];rfl
theorem bl_len (s : ByteArray) : (Ds.bl s).length = s.size:=by simp [Ds.bl]
theorem take_at (s : ByteArray) (k : Nat) (h : k < s.size) : (Ds.bl s).take (k + 1) = (Ds.bl s).take k ++ [s[k]]:=by
 rw [List.take_succ_eq_append_getElem (by simpa [Ds.bl] using h)];rfl
theorem all_bad {s : ByteArray} {k : Nat} (h : k < s.size) {f : UInt8 → Bool} (hf : f s[k] = false) : (Ds.bl s).all f = false:=by
 rw [List.all_eq_false]
 exact ⟨s[k],List.mem_of_getElem? (bl_at s k h),by simp [hf]⟩
theorem part_empty (s : ByteArray) : (Ds.bl s).isEmpty = decide (s.size = 0):=by
 rw [Bool.eq_iff_iff,List.isEmpty_iff,← List.length_eq_zero_iff,bl_len];simp
theorem idxbad_any (c : UInt8) (w : World) : Calls Tryz.prog 162 #[.string ⟨#[46,59,91,47,60,62]⟩,.int .u8 (c.toNat : Nat)] w fun e w'=>e = .returned (.int .i64 (Lib.indexByte Ds.badC c)) ∧ w = w':=by
 refine (Sh.strings_IndexByte _ _ w).mono ?_
 rintro e w' ⟨rfl,rfl⟩
 refine ⟨?_,rfl⟩
 rw [show ((c.toNat : Nat) : Int).toNat.toUInt8 = c by simp]
 rfl
theorem all_good {s : ByteArray} {k : Nat} (h : k < s.size) (ha : ((Ds.bl s).take k).all Ds.goodC = true) (hg : Ds.goodC s[k] = true) : Hid (((Ds.bl s).take (k + 1)).all Ds.goodC = true):=by
 show _ = _
 rw [take_at s k h,List.all_append,ha];simp [hg]
theorem part_no {s : ByteArray} (h : (Ds.bl s).all Ds.goodC = false) : Ds.partB (Ds.bl s) = false:=by unfold Ds.partB;rw [h];simp
set_option maxHeartbeats 400000 in
theorem isPart_any (s : ByteArray) (w : World) (hs : s.size ≤ maxLen) :
  Calls Tryz.prog 123 #[.string s] w fun e w'=>e = .returned (.bool (Ds.partB (Ds.bl s))) ∧ w = w':=by
 unfold maxLen at hs
 go_enter Tryz.func123,Tryz.ntmps123
 go_wp2
 go_loop [6] (fun i=>∃ k : Nat,k ≤ s.size ∧ i = .int .i64 k ∧ Hid (((Ds.bl s).take k).all Ds.goodC = true)) (fun i=>s.size - (intOf i).toNat)
 case atStart=>exact ⟨0,Nat.zero_le _,rfl,rfl⟩
 case round =>
  obtain ⟨k,hk,rfl,hg⟩:=hrel
  by_cases hlt : k < s.size
  ·have HG : Hid (Ds.goodC s[k] = (decide (33 ≤ s[k].toNat) && decide (s[k].toNat ≤ 126) && !decide (0 ≤ Lib.indexByte Ds.badC s[k]))):=by show _ = _;unfold Ds.goodC;rw [Ds.idx_bad]
   by_cases h1 : (s[k].toNat : Int) < 33
   ·have HF:=hid (part_no (all_bad (f:=Ds.goodC) hlt (by rw [HG.out];simp;omega)))
    have hd : decide ((s[k].toNat : Int) < 33) = true:=by simpa using h1
    go_wp2
    go_ret
    exact ⟨by rw [HF.out];rfl,rfl⟩
   ·have hd : decide ((s[k].toNat : Int) < 33) = false:=by simpa using h1
    by_cases h2 : 126 < (s[k].toNat : Int)
    ·have HF:=hid (part_no (all_bad (f:=Ds.goodC) hlt (by rw [HG.out];simp;omega)))
     have hd2 : decide (126 < (s[k].toNat : Int)) = true:=by simpa using h2
     go_wp2
     go_ret
     exact ⟨by rw [HF.out];rfl,rfl⟩
    ·have hd2 : decide (126 < (s[k].toNat : Int)) = false:=by simpa using h2
     have HC:=hid (idxbad_any s[k])
     by_cases h3 : 0 ≤ Lib.indexByte Ds.badC s[k]
     ·have HF:=hid (part_no (all_bad (f:=Ds.goodC) hlt (by rw [HG.out];simp [h3])))
      have hd3 : decide (0 ≤ Lib.indexByte Ds.badC s[k]) = true:=by simpa using h3
      go_wp2_with (go_at_call 162;refine (HC.out _).mono ?_;rintro e w' ⟨rfl,rfl⟩)
      go_ret
      exact ⟨by rw [HF.out];rfl,rfl⟩
     ·have hd3 : decide (0 ≤ Lib.indexByte Ds.badC s[k]) = false:=by simpa using h3
      have HF:=all_good hlt hg.out (by rw [HG.out,hd3];simp;omega)
      go_wp2_with (go_at_call 162;refine (HC.out _).mono ?_;rintro e w' ⟨rfl,rfl⟩)
      go_round
      case rel=>exact ⟨k + 1,by omega,by go_num,HF⟩
      case measure=>simp [intOf];omega
  ·obtain rfl : k = s.size:=by omega
   have HF : Hid (Ds.partB (Ds.bl s) = !decide (s.size = 0)):=by
    have h:=hg.out
    rw [List.take_of_length_le (by rw [bl_len];exact Nat.le_refl _)] at h
    show _ = _
    unfold Ds.partB
    rw [h,part_empty];simp
   by_cases h0 : s.size = 0
   ·have hb : (s.toList.isEmpty) = true:=by rw [ByteArray.toList_eq];have:=part_empty s;unfold Ds.bl at this;rw [this];simpa using h0
    have HF2:=HF.out
    rw [decide_eq_true h0] at HF2
    have HF3:=hid HF2
    clear HF HF2
    go_wp2
    go_ret
    exact ⟨by rw [HF3.out];rfl,rfl⟩
   ·have hb : (s.toList.isEmpty) = false:=by rw [ByteArray.toList_eq];have:=part_empty s;unfold Ds.bl at this;rw [this];simpa using h0
    have HF2:=HF.out
    rw [decide_eq_false h0] at HF2
    have HF3:=hid HF2
    clear HF HF2 h0
    go_wp2
    trace_state
    go_ret
    exact ⟨by rw [HF3.out];rfl,rfl⟩
end Go.Proofs.YtnojgiflgmnjlaaGreatDoor.L2
namespace Go.Proofs.YtnojgiflgmnjlaaGreatDoor.L2
open Go.RowKit
theorem bad_yes {c : UInt8} {j : Nat} {z : UInt8} (h : Ds.badC[j]? = some z) (he : (c.toNat : Int) = (z.toNat : Nat)) : Ds.goodC c = false:=by
 have : c = z:=UInt8.toNat_inj.1 (by omega)
 subst this
 unfold Ds.goodC
 rw [show Ds.badC.contains c = true from List.contains_iff_mem.2 (List.mem_of_getElem? h)]
 simp
theorem bad_no {c : UInt8} (h : ∀ z ∈ Ds.badC,z ≠ c) : Ds.badC.contains c = false:=by
 rw [Bool.eq_false_iff]
 intro h2
 exact h c (List.contains_iff_mem.1 h2) rfl
theorem bad_step {c : UInt8} {j : Nat} {z : UInt8} (h : Ds.badC[j]? = some z) (ha : ∀ x ∈ Ds.badC.take j,x ≠ c) (hne : ¬ (c.toNat : Int) = (z.toNat : Nat)) : Hid (∀ x ∈ Ds.badC.take (j + 1),x ≠ c):=by
 intro x hx
 rw [List.take_add_one,h] at hx
 rcases List.mem_append.1 hx with hx|hx
 ·exact ha x hx
 ·simp only [Option.toList_some,List.mem_singleton] at hx
  subst hx
  intro e
  subst e
  exact hne rfl
set_option maxHeartbeats 1000000 in
theorem rpart_any (s : ByteArray) (w : World) (hs : s.size ≤ maxLen) :
  Calls Tryz.prog 164 #[.string s] w fun e w'=>e = .returned (.bool (Ds.partB (Ds.bl s))) ∧ Below w.heap.size w w':=by
 unfold maxLen at hs
 go_enter Tryz.func164,Tryz.ntmps164
 go_wp2
 go_loopw [4] (fun i wr=>∃ k : Nat,k ≤ s.size ∧ i = .int .i64 k ∧ Hid (((Ds.bl s).take k).all Ds.goodC = true) ∧ Below w.heap.size w wr) (fun i _=>s.size - (intOf i).toNat)
 case atStart=>exact ⟨0,Nat.zero_le _,rfl,rfl,BLw⟩
 case round =>
  obtain ⟨k,hk,rfl,hg,hbl⟩:=hrel
  by_cases hlt : k < s.size
  ·by_cases h1 : (s[k].toNat : Int) < 33
   ·have HF:=hid (part_no (all_bad (f:=Ds.goodC) hlt (by unfold Ds.goodC;simp;omega)))
    have hd : decide ((s[k].toNat : Int) < 33) = true:=by simpa using h1
    go_wp2
    go_ret
    exact ⟨by rw [HF.out];rfl,hbl⟩
   ·have hd : decide ((s[k].toNat : Int) < 33) = false:=by simpa using h1
    by_cases h2 : 126 < (s[k].toNat : Int)
    ·have HF:=hid (part_no (all_bad (f:=Ds.goodC) hlt (by unfold Ds.goodC;simp;omega)))
     have hd2 : decide (126 < (s[k].toNat : Int)) = true:=by simpa using h2
     go_wp2
     go_ret
     exact ⟨by rw [HF.out];rfl,hbl⟩
    ·have hd2 : decide (126 < (s[k].toNat : Int)) = false:=by simpa using h2
     have hk' : (k : Int) < s.size:=by omega
     go_wp2
     obtain ⟨wo,rfl⟩ : ∃ wo : World,wo = wr:=⟨_,rfl⟩
     go_loopw [5] (fun i wr=>∃ j : Nat,j ≤ 6 ∧ i = .int .i64 j ∧ Hid (∀ x ∈ Ds.badC.take j,x ≠ s[k]) ∧ Below w.heap.size w wr) (fun i _=>6 - (intOf i).toNat)
     case atStart=>exact ⟨0,by omega,rfl,fun x hx=>by simp at hx,hbl⟩
     case round =>
      obtain ⟨j,hj,rfl,hno,hbl⟩:=hrel
      by_cases hj6 : j = 6
      ·subst hj6
       have HF:=all_good hlt hg.out (by unfold Ds.goodC;rw [bad_no hno.out];simp;omega)
       go_wp2
       go_roundw
       case rel=>exact ⟨k + 1,by omega,by go_num,HF,hbl⟩
       case measure=>simp [intOf];omega
      ·have all : j = 0 ∨ j = 1 ∨ j = 2 ∨ j = 3 ∨ j = 4 ∨ j = 5:=by omega
       clear hj hj6
       rcases all with rfl|rfl|rfl|rfl|rfl|rfl
       ·by_cases he : (s[k].toNat : Int) = 46
        ·have HF:=hid (part_no (all_bad (f:=Ds.goodC) hlt (bad_yes (j:=0) (z:=46) rfl he)))
         have hd3 : ((s[k].toNat : Int) == 46) = true:=by simpa using he
         have hix : ∀ h,((⟨#[46,59,91,47,60,62]⟩ : ByteArray)[0]'h).toNat = 46:=fun _=>rfl
         clear he
         go_wp2
         go_quiet (fail)
         go_wp2
         go_ret
         exact ⟨by rw [HF.out];rfl,belows_drewN hbl _⟩
        ·have HN:=bad_step (j:=0) (z:=46) rfl hno.out he
         have hd3 : ((s[k].toNat : Int) == 46) = false:=by simpa using he
         have hix : ∀ h,((⟨#[46,59,91,47,60,62]⟩ : ByteArray)[0]'h).toNat = 46:=fun _=>rfl
         clear he
         go_wp2
         go_quiet (fail)
         go_wp2
         go_roundw
         case rel=>exact ⟨0 + 1,by omega,by go_num,HN,belows_drewN hbl _⟩
         case measure=>simp [intOf]
       ·by_cases he : (s[k].toNat : Int) = 59
        ·have HF:=hid (part_no (all_bad (f:=Ds.goodC) hlt (bad_yes (j:=1) (z:=59) rfl he)))
         have hd3 : ((s[k].toNat : Int) == 59) = true:=by simpa using he
         have hix : ∀ h,((⟨#[46,59,91,47,60,62]⟩ : ByteArray)[1]'h).toNat = 59:=fun _=>rfl
         clear he
         go_wp2
         go_quiet (fail)
         go_wp2
         go_ret
         exact ⟨by rw [HF.out];rfl,belows_drewN hbl _⟩
        ·have HN:=bad_step (j:=1) (z:=59) rfl hno.out he
         have hd3 : ((s[k].toNat : Int) == 59) = false:=by simpa using he
         have hix : ∀ h,((⟨#[46,59,91,47,60,62]⟩ : ByteArray)[1]'h).toNat = 59:=fun _=>rfl
         clear he
         go_wp2
         go_quiet (fail)
         go_wp2
         go_roundw
         case rel=>exact ⟨1 + 1,by omega,by go_num,HN,belows_drewN hbl _⟩
         case measure=>simp [intOf]
       ·by_cases he : (s[k].toNat : Int) = 91
        ·have HF:=hid (part_no (all_bad (f:=Ds.goodC) hlt (bad_yes (j:=2) (z:=91) rfl he)))
         have hd3 : ((s[k].toNat : Int) == 91) = true:=by simpa using he
         have hix : ∀ h,((⟨#[46,59,91,47,60,62]⟩ : ByteArray)[2]'h).toNat = 91:=fun _=>rfl
         clear he
         go_wp2
         go_quiet (fail)
         go_wp2
         go_ret
         exact ⟨by rw [HF.out];rfl,belows_drewN hbl _⟩
        ·have HN:=bad_step (j:=2) (z:=91) rfl hno.out he
         have hd3 : ((s[k].toNat : Int) == 91) = false:=by simpa using he
         have hix : ∀ h,((⟨#[46,59,91,47,60,62]⟩ : ByteArray)[2]'h).toNat = 91:=fun _=>rfl
         clear he
         go_wp2
         go_quiet (fail)
         go_wp2
         go_roundw
         case rel=>exact ⟨2 + 1,by omega,by go_num,HN,belows_drewN hbl _⟩
         case measure=>simp [intOf]
       ·by_cases he : (s[k].toNat : Int) = 47
        ·have HF:=hid (part_no (all_bad (f:=Ds.goodC) hlt (bad_yes (j:=3) (z:=47) rfl he)))
         have hd3 : ((s[k].toNat : Int) == 47) = true:=by simpa using he
         have hix : ∀ h,((⟨#[46,59,91,47,60,62]⟩ : ByteArray)[3]'h).toNat = 47:=fun _=>rfl
         clear he
         go_wp2
         go_quiet (fail)
         go_wp2
         go_ret
         exact ⟨by rw [HF.out];rfl,belows_drewN hbl _⟩
        ·have HN:=bad_step (j:=3) (z:=47) rfl hno.out he
         have hd3 : ((s[k].toNat : Int) == 47) = false:=by simpa using he
         have hix : ∀ h,((⟨#[46,59,91,47,60,62]⟩ : ByteArray)[3]'h).toNat = 47:=fun _=>rfl
         clear he
         go_wp2
         go_quiet (fail)
         go_wp2
         go_roundw
         case rel=>exact ⟨3 + 1,by omega,by go_num,HN,belows_drewN hbl _⟩
         case measure=>simp [intOf]
       ·by_cases he : (s[k].toNat : Int) = 60
        ·have HF:=hid (part_no (all_bad (f:=Ds.goodC) hlt (bad_yes (j:=4) (z:=60) rfl he)))
         have hd3 : ((s[k].toNat : Int) == 60) = true:=by simpa using he
         have hix : ∀ h,((⟨#[46,59,91,47,60,62]⟩ : ByteArray)[4]'h).toNat = 60:=fun _=>rfl
         clear he
         go_wp2
         go_quiet (fail)
         go_wp2
         go_ret
         exact ⟨by rw [HF.out];rfl,belows_drewN hbl _⟩
        ·have HN:=bad_step (j:=4) (z:=60) rfl hno.out he
         have hd3 : ((s[k].toNat : Int) == 60) = false:=by simpa using he
         have hix : ∀ h,((⟨#[46,59,91,47,60,62]⟩ : ByteArray)[4]'h).toNat = 60:=fun _=>rfl
         clear he
         go_wp2
         go_quiet (fail)
         go_wp2
         go_roundw
         case rel=>exact ⟨4 + 1,by omega,by go_num,HN,belows_drewN hbl _⟩
         case measure=>simp [intOf]
       ·by_cases he : (s[k].toNat : Int) = 62
        ·have HF:=hid (part_no (all_bad (f:=Ds.goodC) hlt (bad_yes (j:=5) (z:=62) rfl he)))
         have hd3 : ((s[k].toNat : Int) == 62) = true:=by simpa using he
         have hix : ∀ h,((⟨#[46,59,91,47,60,62]⟩ : ByteArray)[5]'h).toNat = 62:=fun _=>rfl
         clear he
         go_wp2
         go_quiet (fail)
         go_wp2
         go_ret
         exact ⟨by rw [HF.out];rfl,belows_drewN hbl _⟩
        ·have HN:=bad_step (j:=5) (z:=62) rfl hno.out he
         have hd3 : ((s[k].toNat : Int) == 62) = false:=by simpa using he
         have hix : ∀ h,((⟨#[46,59,91,47,60,62]⟩ : ByteArray)[5]'h).toNat = 62:=fun _=>rfl
         clear he
         go_wp2
         go_quiet (fail)
         go_wp2
         go_roundw
         case rel=>exact ⟨5 + 1,by omega,by go_num,HN,belows_drewN hbl _⟩
         case measure=>simp [intOf]
  ·obtain rfl : k = s.size:=by omega
   have HF : Hid (Ds.partB (Ds.bl s) = !decide (s.size = 0)):=by
    have h:=hg.out
    rw [List.take_of_length_le (by rw [bl_len];exact Nat.le_refl _)] at h
    show _ = _
    unfold Ds.partB
    rw [h,part_empty];simp
   go_wp2
   go_ret
   exact ⟨by rw [HF.out,(show ∀ n : Nat,(!decide (n = 0)) = decide (0 < n) from fun n=>by cases n <;> simp) s.size];rfl,hbl⟩
end Go.Proofs.YtnojgiflgmnjlaaGreatDoor.L2
namespace Go.Proofs.YtnojgiflgmnjlaaGreatDoor.L2
open Go.RowKit
theorem cut_of {c : UInt8} : ∀ {a b : List UInt8},(∀ x ∈ a,x ≠ c) → Ds.cutC c (a ++ c :: b) = some (a,b)
 | [],b,_=>by simp [Ds.cutC]
 | x :: a,b,h=>by
  rw [List.cons_append]
  unfold Ds.cutC
  rw [if_neg (h x (by simp)),cut_of (fun y hy=>h y (by simp [hy]))]
theorem cut_no {c : UInt8} : ∀ {l : List UInt8},(∀ x ∈ l,x ≠ c) → Ds.cutC c l = none
 | [],_=>rfl
 | x :: l,h=>by
  unfold Ds.cutC
  rw [if_neg (h x (by simp)),cut_no (fun y hy=>h y (by simp [hy]))]
theorem class_cut {l a b : List UInt8} (h : Ds.cutC 47 l = some (a,b)) : Ds.classB l = (Ds.partB a && Ds.classB b):=by
 unfold Ds.classB;rw [Ds.split_some h,List.all_cons]
theorem class_one {l : List UInt8} (h : Ds.cutC 47 l = none) : Ds.classB l = Ds.partB l:=by
 unfold Ds.classB;rw [Ds.split_none h];simp
def RelC (l : List UInt8) (i f : Nat) : Prop:=(i ≤ l.length ∧ f ≤ i ∧ Ds.classB l = Ds.classB (l.drop f) ∧ ∀ x ∈ (l.drop f).take (i - f),x ≠ 47) ∨ (i = l.length + 1 ∧ Ds.classB l = true)
theorem relC_zero (l : List UInt8) : RelC l 0 0:=.inl ⟨by omega,by omega,rfl,fun x hx=>by simp at hx⟩
theorem drop_split {l : List UInt8} {i f : Nat} {c : UInt8} (hf : f ≤ i) (h : l[i]? = some c) : l.drop f = (l.drop f).take (i - f) ++ c :: l.drop (i + 1):=by
 have hi : i < l.length:=by rw [List.getElem?_eq_some_iff] at h;exact h.1
 have e : (l.drop f).drop (i - f) = c :: l.drop (i + 1):=by
  rw [List.drop_drop,show f + (i - f) = i by omega,List.drop_eq_getElem_cons hi]
  rw [List.getElem?_eq_getElem hi] at h
  rw [Option.some.inj h]
 rw [← e,List.take_append_drop]
theorem relC_on {l : List UInt8} {i f : Nat} {c : UInt8} (h : RelC l i f) (hc : l[i]? = some c) (hne : c ≠ 47) : RelC l (i + 1) f:=by
 have hi : i < l.length:=by rw [List.getElem?_eq_some_iff] at hc;exact hc.1
 rcases h with ⟨h1,h2,h3,h4⟩|⟨h1,-⟩
 ·refine .inl ⟨by omega,by omega,h3,fun x hx=>?_⟩
  rw [show i + 1 - f = (i - f) + 1 by omega,List.take_add_one] at hx
  rcases List.mem_append.1 hx with hx|hx
  ·exact h4 x hx
  ·rw [List.getElem?_drop,show f + (i - f) = i by omega,hc] at hx
   simp at hx;rw [hx];exact hne
 ·omega
theorem relC_mark {l : List UInt8} {i f : Nat} (h : RelC l i f) (hc : l[i]? = some 47) : Ds.classB l = (Ds.partB ((l.drop f).take (i - f)) && Ds.classB (l.drop (i + 1))):=by
 have hi : i < l.length:=by rw [List.getElem?_eq_some_iff] at hc;exact hc.1
 rcases h with ⟨h1,h2,h3,h4⟩|⟨h1,-⟩
 ·rw [h3,drop_split h2 hc]
  exact class_cut (cut_of h4) |>.trans (by rw [← drop_split h2 hc])
 ·omega
theorem relC_end {l : List UInt8} {f : Nat} (h : RelC l l.length f) : Ds.classB l = Ds.partB ((l.drop f).take (l.length - f)):=by
 rcases h with ⟨h1,h2,h3,h4⟩|⟨h1,-⟩
 ·have e : (l.drop f).take (l.length - f) = l.drop f:=List.take_of_length_le (by rw [List.length_drop];exact Nat.le_refl _)
  rw [e] at h4 ⊢
  rw [h3,class_one (cut_no h4)]
 ·omega
theorem relC_next {l : List UInt8} {i : Nat} (hi : i < l.length) (h : Ds.classB l = Ds.classB (l.drop (i + 1))) : RelC l (i + 1) (i + 1):=.inl ⟨by omega,by omega,h,fun x hx=>by simp at hx⟩
theorem bl_ext (s : ByteArray) (a b : Nat) : Ds.bl (s.extract a b) = ((Ds.bl s).drop a).take (b - a):=Lib.extract_data s a b
theorem ext_size (s : ByteArray) (a b : Nat) : (s.extract a b).size ≤ s.size:=by rw [ByteArray.size_extract];omega
set_option maxHeartbeats 1000000 in
theorem rclass_any (s : ByteArray) (w : World) (hs : s.size ≤ 9223372036854775800) :
  Calls Tryz.prog 125 #[.string s] w fun e w'=>e = .returned (.bool (Ds.classB (Ds.bl s))) ∧ Below w.heap.size w w':=by
 have hl:=bl_len s
 go_enter Tryz.func125,Tryz.ntmps125
 go_wp2
 go_loopw [3,4] (fun f i wr=>∃ (n k : Nat),k ≤ s.size + 1 ∧ n ≤ k ∧ f = .int .i64 n ∧ i = .int .i64 k ∧ Hid (RelC (Ds.bl s) k n) ∧ Below w.heap.size w wr) (fun _ i _=>s.size + 1 - (intOf i).toNat)
 case atStart=>exact ⟨0,0,by omega,by omega,rfl,rfl,relC_zero _,BLw⟩
 case round =>
  obtain ⟨n,k,hk,hnk,rfl,rfl,hr,hbl⟩:=hrel
  have HP:=hid (fun W=>rpart_any (s.extract n k) W (by have:=ext_size s n k;unfold maxLen;omega))
  have HX:=hid (bl_ext s n k)
  by_cases hk1 : k = s.size + 1
  ·have HF : Hid (Ds.classB (Ds.bl s) = true):=by
    rcases hr.out with ⟨h1,-⟩|⟨-,h2⟩
    ·omega
    ·exact h2
   subst hk1
   clear HP HX
   go_wp2
   go_ret
   exact ⟨by rw [HF.out];rfl,hbl⟩
  ·by_cases hk2 : k = s.size
   ·subst hk2
    have HE:=relC_end (hl ▸ hr.out : RelC (Ds.bl s) (Ds.bl s).length n)
    rw [hl,← HX.out] at HE
    cases hp : Ds.partB (Ds.bl (s.extract n s.size)) with
    | true =>
     have HP2:=HP.out
     rw [hp] at HP2 HE
     have HP3:=hid HP2
     have HF:=hid HE
     clear HP HP2 HX HE hp hk hk1
     go_wp2_with (go_at_call 164;refine (HP3.out _).mono ?_;rintro e w1 ⟨rfl,hb1⟩)
     go_roundw
     case rel=>exact ⟨s.size + 1,s.size + 1,by omega,by omega,by go_num,by go_num,.inr ⟨by rw [hl],HF.out⟩,belows hbl hb1 hbl.size⟩
     case measure=>simp [intOf]
    | false =>
     have HP2:=HP.out
     rw [hp] at HP2 HE
     have HP3:=hid HP2
     have HF:=hid HE
     clear HP HP2 HX HE hp hk hk1
     go_wp2_with (go_at_call 164;refine (HP3.out _).mono ?_;rintro e w1 ⟨rfl,hb1⟩)
     go_ret
     exact ⟨by rw [HF.out];rfl,belows hbl hb1 hbl.size⟩
   ·have hlt : k < s.size:=by omega
    have hat:=bl_at s k hlt
    have hne : ((k : Int) == (s.size : Int)) = false:=by rw [beq_eq_false_iff_ne];omega
    have hlt' : (k : Int) < s.size:=by omega
    by_cases hc : (s[k].toNat : Int) = 47
    ·have hc2 : s[k] = 47:=UInt8.toNat_inj.1 (by have : (47 : UInt8).toNat = 47:=rfl;omega)
     rw [hc2] at hat
     have HM:=relC_mark hr.out hat
     rw [← HX.out] at HM
     have hd : ((s[k].toNat : Int) == 47) = true:=by simpa using hc
     cases hp : Ds.partB (Ds.bl (s.extract n k)) with
     | true =>
      have HP2:=HP.out
      rw [hp] at HP2 HM
      rw [Bool.true_and] at HM
      have HP3:=hid HP2
      have HF:=hid (relC_next (by rw [hl];exact hlt) HM)
      clear HP HP2 HX HM hp hk hk1 hk2 hc hc2 hat
      go_wp2_with (go_at_call 164;refine (HP3.out _).mono ?_;rintro e w1 ⟨rfl,hb1⟩)
      go_roundw
      case rel=>exact ⟨k + 1,k + 1,by omega,by omega,by go_num,by go_num,HF,belows hbl hb1 hbl.size⟩
      case measure=>simp [intOf];omega
     | false =>
      have HP2:=HP.out
      rw [hp] at HP2 HM
      rw [Bool.false_and] at HM
      have HP3:=hid HP2
      have HF:=hid HM
      clear HP HP2 HX HM hp hk hk1 hk2 hc hc2 hat
      go_wp2_with (go_at_call 164;refine (HP3.out _).mono ?_;rintro e w1 ⟨rfl,hb1⟩)
      go_ret
      exact ⟨by rw [HF.out];rfl,belows hbl hb1 hbl.size⟩
    ·have HF:=hid (relC_on hr.out hat (fun e=>hc (by rw [e];rfl)))
     have hd : ((s[k].toNat : Int) == 47) = false:=by simpa using hc
     clear HP HX hk1 hk2 hc hat
     go_wp2
     go_roundw
     case rel=>exact ⟨n,k + 1,by omega,by omega,rfl,by go_num,HF,hbl⟩
     case measure=>simp [intOf];omega
def nameE (l : List UInt8) : Int:=if 255 < l.length then 3 else if Ds.classB l = true then 0 else 21
def initL : List UInt8:=[60,105,110,105,116,62]
def memE (l : List UInt8) : Int:=if 255 < l.length then 3 else if Ds.partB l = true ∨ l = initL then 0 else 21
theorem str_eq (s : ByteArray) (l : List UInt8) : (s.toList = l) = (Ds.bl s = l):=by rw [ByteArray.toList_eq]
theorem rclassName_any (s : ByteArray) (w : World) :
  Calls Tryz.prog 71 #[.string s] w fun e w'=>e = .returned (.int .i64 (nameE (Ds.bl s))) ∧ Below w.heap.size w w':=by
 unfold nameE
 rw [bl_len]
 by_cases h1 : 255 < s.size
 ·rw [if_pos h1]
  have hd : decide (255 < (s.size : Int)) = true:=by simp;omega
  go_enter Tryz.func71,Tryz.ntmps71
  go_wp2
  go_ret
  exact ⟨rfl,BLw⟩
 ·rw [if_neg h1]
  have hd : decide (255 < (s.size : Int)) = false:=by simp;omega
  have HC:=rclass_any s w (by omega)
  cases hc : Ds.classB (Ds.bl s) with
  | true =>
   rw [if_pos rfl]
   rw [hc] at HC
   have HC2:=hid HC
   clear HC hc
   go_enter Tryz.func71,Tryz.ntmps71
   go_wp2_with (go_at_call 125;refine HC2.out.mono ?_;rintro e w1 ⟨rfl,hb1⟩)
   go_ret
   exact ⟨rfl,hb1⟩
  | false =>
   rw [if_neg (by simp)]
   rw [hc] at HC
   have HC2:=hid HC
   clear HC hc
   go_enter Tryz.func71,Tryz.ntmps71
   go_wp2_with (go_at_call 125;refine HC2.out.mono ?_;rintro e w1 ⟨rfl,hb1⟩)
   go_ret
   exact ⟨rfl,hb1⟩
end Go.Proofs.YtnojgiflgmnjlaaGreatDoor.L2
namespace Go.Proofs.YtnojgiflgmnjlaaGreatDoor.L2
open Go.RowKit
attribute [local go_sem] Oper.semAt_some
abbrev Sx:={ x : ByteArray // x.size ≤ 9223372036854775000 }
def strE (x : Sx) : Array Value:=#[.string x.1]
def bx (x : Sx) : List UInt8:=Ds.bl x.1
def restLen (b : Nat) (w : World) : Nat:=match w.cell? ⟨b,0,none⟩ with|some (.string r)=>r.size|_=>0
theorem restLen_of {b : Nat} {w : World} {r : ByteArray} (h : w.cell? ⟨b,0,none⟩ = some (.string r)) : restLen b w = r.size:=by unfold restLen;rw [h]
structure Spl (w : World) (bp bs bz : Nat) (r : ByteArray) : Prop where
 sep : Boxed w bp 9 (.string ⟨#[47]⟩)
 str : Boxed w bs 9 (.string r)
 sav : Boxed w bz 3 (.int .i64 0)
theorem Boxed.below {W W' : World} {B n₀ : Nat} {t : TypeId} {v : Value} (h : Boxed W B t v) (hb : Below n₀ W W') (hB : B < n₀) : Boxed W' B t v:=(hb.block B hB).trans h
theorem Spl.below {w w' : World} {bp bs bz n₀ : Nat} {r : ByteArray} (h : Spl w bp bs bz r) (hb : Below n₀ w w') (h1 : bp < n₀) (h2 : bs < n₀) (h3 : bz < n₀) : Spl w' bp bs bz r :=
 ⟨Boxed.below h.sep hb h1,Boxed.below h.str hb h2,Boxed.below h.sav hb h3⟩
theorem Spl.set {w : World} {bp bs bz : Nat} {r : ByteArray} (h : Spl w bp bs bz r) (q : ByteArray) (h1 : bp ≠ bs) (h3 : bz ≠ bs) : Spl (w.setCell ⟨bs,0,none⟩ (.string q)) bp bs bz q :=
 ⟨h.sep.other h1 _,h.str.set _,h.sav.other h3 _⟩
set_option maxHeartbeats 2000000 in
theorem split1_box (t : ByteArray) (bp bs bz n₀ n : Nat) (w : World) (hn : 1 ≤ n) (hs : Spl w bp bs bz t) (h1 : bp < n₀) (h2 : bs < n₀) (h3 : bz < n₀) (hn0 : n₀ ≤ w.heap.size) (d1 : bp ≠ bs) (d3 : bz ≠ bs) (hts : t.size ≤ 9223372036854775000) :
  Kit.SeqBox n Tryz.prog 183 #[.pointer (some ⟨bp,0,none⟩),.pointer (some ⟨bs,0,none⟩),.pointer (some ⟨bz,0,none⟩)] strE n₀
   (fun ys=>ys.map bx = Ds.splitC 47 (Ds.bl t)) (fun ys=>ys.map bx <+: Ds.splitC 47 (Ds.bl t)) (Ds.splitC 47 (Ds.bl t)).length bs w:=fun l J Jx W hW hJ hJb hY h0=>by
 have hS:=hs.below hW (Nat.lt_of_lt_of_le h1 hn0) (Nat.lt_of_lt_of_le h2 hn0) (Nat.lt_of_lt_of_le h3 hn0)
 have cp:=hS.sep.cell
 refine callsIn_of_wp Tryz.func183 rfl trivial ?_ rfl
 simp only [Tryz.ntmps183,List.size_toArray,List.length_cons,List.length_nil,Nat.reduceAdd,Nat.reduceSub,Array.replicate_succ,Array.replicate_zero,List.push_toArray,List.append_toArray,List.nil_append,List.cons_append]
 gi_wp2
 clear cp
 gi_loopw [7] (fun _ wr=>∃ (pre : List Sx) (r : ByteArray),Spl wr bp bs bz r ∧ J pre wr ∧ r.size ≤ 9223372036854775000 ∧ Hid (Ds.splitC 47 (Ds.bl t) = pre.map bx ++ Ds.splitC 47 (Ds.bl r))) (fun _ wr=>restLen bs wr)
 case atStart=>exact ⟨[],t,hS,h0,hts,rfl⟩
 case round =>
  obtain ⟨pre,r,hSp,hJs,hrs,hsplit⟩:=hrel
  have cp:=hSp.sep.cell
  have cs:=hSp.str.cell
  have fs:=hSp.str.frozen
  have cz:=hSp.sav.cell
  have hlen : pre.length < (Ds.splitC 47 (Ds.bl t)).length:=by
   rw [hsplit.out,List.length_append,List.length_map]
   have:=List.length_pos_iff.2 (Ds.splitC_ne 47 (Ds.bl r))
   omega
  have HI:=hid (Sh.strings_Index_one r 47 wr)
  cases hcut : Ds.cutC 47 (Ds.bl r) with
  | none =>
   have HF : Hid (Ds.splitC 47 (Ds.bl t) = (pre ++ [(⟨r,hrs⟩ : Sx)]).map bx):=by show _ = _;rw [hsplit.out,Ds.split_none hcut];simp [bx]
   obtain ⟨fn,tmps,assign,body,hy,hR⟩:=hY pre (⟨r,hrs⟩ : Sx) wr hJs hlen
   have HI2:=HI.out
   rw [Ds.idx_none hcut] at HI2
   have HI3:=hid HI2
   unfold strE at hy
   clear HI HI2 hsplit hcut
   gi_wp2_with (refine ⟨trivial,?_⟩;gi_at_call 185;refine (callsIn_wide.2 HI3.out).mono ?_;rintro e w1 ⟨rfl,rfl⟩)
   refine hR.mono ?_
   rintro e W3 (⟨rfl,hJ3,hk3⟩|⟨rfl,hJx3⟩)
   ·gi_wp2
    go_end0
    exact ⟨⟨_,rfl⟩,.inl ⟨_,HF.out.symm,hJ3⟩⟩
   ·gi_wp2
    go_end0
    exact ⟨⟨_,rfl⟩,.inr ⟨_,by rw [HF.out];exact List.prefix_rfl,hJx3⟩⟩
  | some ab =>
   obtain ⟨a,b⟩:=ab
   obtain ⟨m,hm⟩ : ∃ m,a.length = m:=⟨_,rfl⟩
   have hal : m < r.size:=by
    have:=congrArg List.length (Ds.cut_eq hcut)
    rw [bl_len,List.length_append,List.length_cons] at this
    omega
   have hex : (r.extract 0 m).size ≤ 9223372036854775000:=by have:=ext_size r 0 m;omega
   have hfr : Ds.bl (r.extract 0 m) = a:=by
    rw [bl_ext,Ds.cut_eq hcut,← hm];simp
   have hre : Ds.bl (r.extract (m + 1) r.size) = b:=by
    rw [bl_ext,← bl_len,Ds.cut_eq hcut,← hm]
    rw [show (a ++ 47 :: b).drop (a.length + 1) = b by rw [List.drop_append,List.drop_eq_nil_of_le (by omega)];simp]
    exact List.take_of_length_le (by simp;omega)
   have HF : Hid (Ds.splitC 47 (Ds.bl t) = (pre ++ [(⟨r.extract 0 m,hex⟩ : Sx)]).map bx ++ Ds.splitC 47 (Ds.bl (r.extract (m + 1) r.size))):=by
    show _ = _
    rw [hsplit.out,Ds.split_some hcut,List.map_append,List.map_cons,List.map_nil,hre,show bx ⟨r.extract 0 m,hex⟩ = a from hfr];simp
   obtain ⟨fn,tmps,assign,body,hy,hR⟩:=hY pre (⟨r.extract 0 m,hex⟩ : Sx) wr hJs hlen
   have HI2:=HI.out
   rw [Ds.idx_some hcut,hm] at HI2
   have HI3:=hid HI2
   unfold strE at hy
   have hal' : (m : Int) < r.size:=by omega
   clear HI HI2 hsplit
   gi_wp2_with (refine ⟨trivial,?_⟩;gi_at_call 185;refine (callsIn_wide.2 HI3.out).mono ?_;rintro e w1 ⟨rfl,rfl⟩)
   refine hR.mono ?_
   rintro e W3 (⟨rfl,hJ3,hk3⟩|⟨rfl,hJx3⟩)
   ·have hS3:=hSp.below hk3 h1 h2 h3
    have cp3:=hS3.sep.cell
    have cs3:=hS3.str.cell
    have fs3:=hS3.str.frozen
    gi_wp2
    go_roundw
    case rel=>exact ⟨pre ++ [⟨r.extract 0 m,hex⟩],r.extract (m + 1) r.size,hS3.set _ d1 d3,hJb _ _ _ hJ3,by have:=ext_size r (m + 1) r.size;omega,HF⟩
    case measure =>
     rw [restLen_of (hS3.set (r.extract (m + 1) r.size) d1 d3).str.cell,restLen_of cs,ByteArray.size_extract]
     omega
   ·gi_wp2
    refine bodyPost_ret (results_none rfl _ _ _) rfl ?_
    exact ⟨⟨_,rfl⟩,.inr ⟨_,by rw [HF.out];exact List.prefix_append _ _,hJx3⟩⟩
end Go.Proofs.YtnojgiflgmnjlaaGreatDoor.L2
namespace Go.Proofs.YtnojgiflgmnjlaaGreatDoor.L2
open Go.RowKit
attribute [local go_sem] Oper.semAt_some
theorem splitSeq_any (s sep : ByteArray) (w : World) : Calls Tryz.prog 122 #[.string s,.string sep] w fun e w' =>
  e = .returned (.func (.func 183) #[] #[.pointer (some ⟨w.heap.size + 1,0,none⟩),.pointer (some ⟨w.heap.size,0,none⟩),.pointer (some ⟨w.heap.size + 1 + 1,0,none⟩)]) ∧
  w' = ((w.alloc (.cells #[.string s] 9)).alloc (.cells #[.string sep] 9)).alloc (.cells #[.int .i64 0] 3):=by
 go_enter Tryz.func122,Tryz.ntmps122
 go_wp2
 go_ret
 exact ⟨rfl,rfl⟩
set_option maxHeartbeats 2000000 in
theorem className_any (s : ByteArray) (w : World) :
  Calls Tryz.prog 68 #[.string s] w fun e w'=>e = .returned (.int .i64 (nameE (Ds.bl s))) ∧ Below w.heap.size w w':=by
 unfold nameE
 rw [bl_len]
 by_cases h1 : 255 < s.size
 ·rw [if_pos h1]
  have hd : decide (255 < (s.size : Int)) = true:=by simp;omega
  go_enter Tryz.func68,Tryz.ntmps68
  go_wp2
  exact bodyPost_ret (v:=.int .i64 3) (by simp [results,Tryz.results68,go_sem]) rfl ⟨rfl,BLw⟩
 ·rw [if_neg h1]
  have hd : decide (255 < (s.size : Int)) = false:=by simp;omega
  obtain ⟨er,her⟩ : ∃ er : Int,er = if Ds.classB (Ds.bl s) = true then 0 else 21:=⟨_,rfl⟩
  rw [← her]
  have HER:=hid her
  clear her
  refine (callsIn_wide (n:=5)).1 ?_
  refine callsIn_of_wp_marks Tryz.func68 rfl trivial ?_ rfl
  simp only [Tryz.ntmps68,List.size_toArray,List.length_cons,List.length_nil,Nat.reduceAdd,Nat.reduceSub,Array.replicate_succ,Array.replicate_zero,List.push_toArray,List.append_toArray,List.nil_append,List.cons_append]
  gi_wp2_with (refine ⟨trivial,?_⟩;gi_at_call 122;refine (callsIn_wide.2 (splitSeq_any _ _ _)).mono ?_;rintro e w1 ⟨rfl,rfl⟩)
  have b0:=(((Boxed.new w 27 (.int .i64 0)).alloc (.cells #[.string s] 9)).alloc (.cells #[.string ⟨#[47]⟩] 9)).alloc (.cells #[.int .i64 0] 3)
  have b1:=((Boxed.new (w.alloc (.cells #[.int .i64 0] 27)) 9 (.string s)).alloc (.cells #[.string ⟨#[47]⟩] 9)).alloc (.cells #[.int .i64 0] 3)
  have b2:=(Boxed.new ((w.alloc (.cells #[.int .i64 0] 27)).alloc (.cells #[.string s] 9)) 9 (.string ⟨#[47]⟩)).alloc (.cells #[.int .i64 0] 3)
  have b3:=Boxed.new (((w.alloc (.cells #[.int .i64 0] 27)).alloc (.cells #[.string s] 9)).alloc (.cells #[.string ⟨#[47]⟩] 9)) 3 (.int .i64 0)
  simp only [World.size_alloc] at b0 b1 b2 b3
  have hB0 : Below w.heap.size w ((((w.alloc (.cells #[.int .i64 0] 27)).alloc (.cells #[.string s] 9)).alloc (.cells #[.string ⟨#[47]⟩] 9)).alloc (.cells #[.int .i64 0] 3)):=((((Below.refl _ w).alloc (Nat.le_refl _) _).alloc (by simp only [World.size_alloc];omega) _).alloc (by simp only [World.size_alloc];omega) _).alloc (by simp only [World.size_alloc];omega) _
  have hsz : ((((w.alloc (.cells #[.int .i64 0] 27)).alloc (.cells #[.string s] 9)).alloc (.cells #[.string ⟨#[47]⟩] 9)).alloc (.cells #[.int .i64 0] 3)).heap.size = w.heap.size + 4:=by simp only [World.size_alloc]
  obtain ⟨W0,hW0⟩ : ∃ W0,(((w.alloc (.cells #[.int .i64 0] 27)).alloc (.cells #[.string s] 9)).alloc (.cells #[.string ⟨#[47]⟩] 9)).alloc (.cells #[.int .i64 0] 3) = W0:=⟨_,rfl⟩
  rw [hW0] at b0 b1 b2 b3 hB0 hsz ⊢
  clear hW0
  refine Kit.range_box (n₀:=W0.heap.size) (by omega) (gf:=183) (lb:=#[.pointer (some ⟨w.heap.size + 1 + 1,0,none⟩),.pointer (some ⟨w.heap.size + 1,0,none⟩),.pointer (some ⟨w.heap.size + 1 + 1 + 1,0,none⟩)]) rfl (enters_of Tryz.func183 (by kernel_rfl) rfl)
   (split1_box s (w.heap.size + 1 + 1) (w.heap.size + 1) (w.heap.size + 1 + 1 + 1) W0.heap.size (5 - 1) W0 (by omega) ⟨b2,b1,b3⟩ (by omega) (by omega) (by omega) (Nat.le_refl _) (by omega) (by omega) (by omega)) (Nat.le_refl _) (Below.refl _ _) (fun _=>rfl)
   (fun pre W=>(Boxed W w.heap.size 27 (.int .i64 0) ∧ Hid (∀ x ∈ pre,Ds.partB (bx x) = true)) ∧ Below w.heap.size w W)
   (fun pre W=>(Boxed W w.heap.size 27 (.int .i64 21) ∧ Hid (∃ x ∈ pre,Ds.partB (bx x) = false)) ∧ Below w.heap.size w W)
   (OwnFrom.and (OwnFrom.and (Own.from (boxed_own _ _ _) _) (ownFrom_pure _ (fun pre : List Sx=>Hid (∀ x ∈ pre,Ds.partB (bx x) = true)))) (ownFrom_below (Nat.le_refl _) (by omega)))
   (OwnFrom.and (OwnFrom.and (Own.from (boxed_own _ _ _) _) (ownFrom_pure _ (fun pre : List Sx=>Hid (∃ x ∈ pre,Ds.partB (bx x) = false)))) (ownFrom_below (Nat.le_refl _) (by omega)))
   (fun pre W v ⟨⟨i0,ip⟩,iB⟩=>⟨⟨i0.other (by omega) v,ip⟩,iB.setCell (p:=⟨w.heap.size + 1,0,none⟩) (by show w.heap.size ≤ w.heap.size + 1;omega) v⟩)
   ⟨⟨b0,hid (fun x hx=>by simp at hx)⟩,hB0⟩
   (fun x=>{ tmps:=#[.string s,undef,.pointer (some ⟨w.heap.size,0,none⟩),.string x.1,.string s,.int .i64 s.size,.bool false,.string s,.func (.func 183) #[] #[.pointer (some ⟨w.heap.size + 1 + 1,0,none⟩),.pointer (some ⟨w.heap.size + 1,0,none⟩),.pointer (some ⟨w.heap.size + 1 + 1 + 1,0,none⟩)],.string x.1,undef,undef,undef],defers:=[] }) ?assign ?body ?done ?stop
  case assign =>
   intro l x W K hK
   unfold strE
   gi_wp2
   exact hK
  case body =>
   rintro l pre ⟨x,hx⟩ W ⟨⟨i0,ip⟩,iB⟩ _
   have c0:=i0.cell
   have f0:=i0.frozen
   have HP:=isPart_any x W (by unfold maxLen;omega)
   cases hp : Ds.partB (Ds.bl x) with
   | true =>
    have HN : Hid (∀ y ∈ pre ++ [(⟨x,hx⟩ : Sx)],Ds.partB (bx y) = true):=fun y hy=>by
     rcases List.mem_append.1 hy with hy|hy
     ·exact ip.out y hy
     ·rw [List.mem_singleton.1 hy];exact hp
    rw [hp] at HP
    have HP2:=hid HP
    clear HP hp
    gi_wp2_with (refine ⟨trivial,?_⟩;gi_at_call 123;refine (CallsIn.inRound l (callsIn_wide.2 HP2.out)).mono ?_;rintro e w1 ⟨rfl,rfl⟩)
    exact ⟨KeepsFrom.refl _ _,Below.refl _ _,⟨i0,HN⟩,iB⟩
   | false =>
    have HN : Hid (∃ y ∈ pre ++ [(⟨x,hx⟩ : Sx)],Ds.partB (bx y) = false):=⟨⟨x,hx⟩,by simp,hp⟩
    rw [hp] at HP
    have HP2:=hid HP
    clear HP hp
    gi_wp2_with (refine ⟨trivial,?_⟩;gi_at_call 123;refine (CallsIn.inRound l (callsIn_wide.2 HP2.out)).mono ?_;rintro e w1 ⟨rfl,rfl⟩)
    exact ⟨(KeepsOthers.setCell _ _ _).from _,⟨i0.set _,HN⟩,iB.setCell (p:=⟨w.heap.size,0,none⟩) (Nat.le_refl _) _⟩
  case done =>
   rintro D ys W hD hys ⟨⟨i0,ip⟩,iB⟩ hK
   have hc : Ds.classB (Ds.bl s) = true:=by
    unfold Ds.classB
    rw [← hys,List.all_map,List.all_eq_true]
    exact ip.out
   have HC:=hid hc
   have c0:=i0.cell
   have f0:=i0.frozen
   clear hc
   gi_wp2
   have hK':=(KeepsOthers.setCell W ⟨w.heap.size,0,none⟩ (.int .i64 0)).same D _ hK rfl
   refine ⟨by simp,.inl ⟨_,_,rfl,run_takeDeferred hK',?_⟩⟩
   have hc5:=Go.cell_kept (World.cell?_setCell_same' W ⟨w.heap.size,0,none⟩ (.int .i64 0) (by rw [c0];rfl)) (grownBy_putObj' _ D (.deferred none)) (fun r e=>by cases e;exact ⟨_,hK',rfl⟩)
   refine ⟨.int .i64 0,?_,by rw [HER.out,if_pos HC.out],(iB.setCell (p:=⟨w.heap.size,0,none⟩) (Nat.le_refl _) _).trans (belowK_b (w:=w) (Nat.le_refl _) _ D _ _ (by omega) hK' rfl rfl)⟩
   simp [results,Tryz.f68,go_sem,hc5]
  case stop =>
   rintro D pre W hD hpre ⟨⟨i0,ip⟩,iB⟩ hK
   have hc : Ds.classB (Ds.bl s) = false:=by
    obtain ⟨x,hx,hp⟩:=ip.out
    unfold Ds.classB
    rw [List.all_eq_false]
    exact ⟨bx x,hpre.subset (List.mem_map_of_mem hx),by simp [hp]⟩
   have HC:=hid hc
   clear hc
   gi_wp2
   refine ⟨by simp,.inl ⟨_,_,rfl,run_takeDeferred hK,?_⟩⟩
   have hc5:=Go.cell_kept i0.cell (grownBy_putObj' _ D (.deferred none)) (fun r e=>by cases e;exact ⟨_,hK,rfl⟩)
   refine ⟨.int .i64 21,?_,by rw [HER.out,if_neg (by rw [HC.out];simp)],iB.trans (belowK_b (w:=w) (Nat.le_refl _) _ D _ _ (by omega) hK rfl rfl)⟩
   simp [results,Tryz.f68,go_sem,hc5]
end Go.Proofs.YtnojgiflgmnjlaaGreatDoor.L2
namespace Go.Proofs.YtnojgiflgmnjlaaGreatDoor.L2
open Go.RowKit
structure Rd (w : World) (pb mb : Nat) (t : ByteArray) : Prop where
 cells : w.heap[pb]? = some (.cells #[.string t,.map (some mb)] 209 (0,0))
 kmap : KMap w mb
 lt : mb < pb
theorem Rd.sz {w : World} {pb mb : Nat} {t : ByteArray} (h : Rd w pb mb t) : pb < w.heap.size:=(Array.getElem?_eq_some_iff.1 h.cells).1
theorem Rd.left {w : World} {pb mb : Nat} {t : ByteArray} (h : Rd w pb mb t) : w.cell? ⟨pb,0,none⟩ = some (.string t):=by simp [World.cell?,h.cells]
theorem Rd.kinds {w : World} {pb mb : Nat} {t : ByteArray} (h : Rd w pb mb t) : w.cell? ⟨pb,1,none⟩ = some (.map (some mb)):=by simp [World.cell?,h.cells]
theorem Rd.frozen {w : World} {pb mb : Nat} {t : ByteArray} (h : Rd w pb mb t) (j : Nat) : w.frozen? ⟨pb,j,none⟩ = false:=by simp [World.frozen?,h.cells]
theorem Rd.below {w w' : World} {pb mb n₀ : Nat} {t : ByteArray} (h : Rd w pb mb t) (hb : Below n₀ w w') (hp : pb < n₀) : Rd w' pb mb t:=⟨(hb.block pb hp).trans h.cells,h.kmap.below hb (by have:=h.lt;omega),h.lt⟩
theorem Rd.set {w : World} {pb mb : Nat} {t : ByteArray} (h : Rd w pb mb t) (q : ByteArray) : Rd (w.setCell ⟨pb,0,none⟩ (.string q)) pb mb q:=by
 refine ⟨?_,h.kmap.below (n₀:=pb) ((Below.refl _ w).setCell (p:=⟨pb,0,none⟩) (Nat.le_refl _) _) h.lt,h.lt⟩
 obtain ⟨hlt,hk⟩:=Array.getElem?_eq_some_iff.1 h.cells
 show (w.heap.modify pb _)[pb]? = _
 rw [Array.getElem?_eq_getElem (by rw [Array.size_modify];exact hlt),Array.getElem_modify_self,hk]
 rfl
def bad : Ending:=.panicked [{ v:=.iface 27 (.int .i64 20),recovered:=false }]
theorem size_pos {t : ByteArray} {c : UInt8} {l : List UInt8} (h : Ds.bl t = c :: l) : 0 < t.size:=by rw [← bl_len,h];simp
theorem first_at {t : ByteArray} {c : UInt8} {l : List UInt8} (h : Ds.bl t = c :: l) : t[0]'(size_pos h) = c:=by
 have:=bl_at t 0 (size_pos h)
 rw [h] at this
 simpa using this.symm
theorem rest_at {t : ByteArray} {c : UInt8} {l : List UInt8} (h : Ds.bl t = c :: l) : Ds.bl (t.extract 1 t.size) = l:=by
 rw [bl_ext,h,← bl_len,h];simp
theorem take_bad (pb mb : Nat) (t : ByteArray) (w : World) (hr : Rd w pb mb t) (h : Ds.bl t = []) : Calls Tryz.prog 173 #[.pointer (some ⟨pb,0,none⟩)] w fun e w'=>e = bad ∧ w = w':=by
 have cl:=hr.left
 have h0 : (t.toList.isEmpty) = true:=by rw [ByteArray.toList_eq];exact List.isEmpty_iff.2 h
 clear h hr
 unfold bad
 go_enter Tryz.func173,Tryz.ntmps173
 go_wp2
 exact ⟨rfl,rfl,rfl⟩
theorem take_ok (pb mb : Nat) (t : ByteArray) (c : UInt8) (l : List UInt8) (w : World) (hr : Rd w pb mb t) (h : Ds.bl t = c :: l) : Calls Tryz.prog 173 #[.pointer (some ⟨pb,0,none⟩)] w fun e w'=>e = .returned (.int .u8 (c.toNat : Nat)) ∧ w' = w.setCell ⟨pb,0,none⟩ (.string (t.extract 1 t.size)):=by
 have cl:=hr.left
 have fl:=hr.frozen 0
 have h1:=size_pos h
 have h1' : (0 : Int) < t.size:=by omega
 have HC : Hid (t[0]'h1 = c):=first_at h
 have h0 : (t.toList.isEmpty) = false:=by
  rw [ByteArray.toList_eq]
  have : t.data.toList = c :: l:=h
  rw [this];rfl
 clear h hr
 go_enter Tryz.func173,Tryz.ntmps173
 go_wp2
 go_ret
 exact ⟨by rw [← HC.out];rfl,rfl⟩
theorem skip_none (pb mb : Nat) (t : ByteArray) (z : Int) (w : World) (hr : Rd w pb mb t) (h : Ds.bl t = []) : Calls Tryz.prog 177 #[.pointer (some ⟨pb,0,none⟩),.int .u8 z] w fun e w'=>e = .returned (.bool false) ∧ w = w':=by
 have cl:=hr.left
 have h0 : (t.toList.isEmpty) = true:=by rw [ByteArray.toList_eq];exact List.isEmpty_iff.2 h
 clear h hr
 go_enter Tryz.func177,Tryz.ntmps177
 go_wp2
 go_ret
 exact ⟨rfl,rfl⟩
theorem skip_other (pb mb : Nat) (t : ByteArray) (c : UInt8) (l : List UInt8) (z : Int) (w : World) (hr : Rd w pb mb t) (h : Ds.bl t = c :: l) (hne : ¬ (c.toNat : Int) = z) : Calls Tryz.prog 177 #[.pointer (some ⟨pb,0,none⟩),.int .u8 z] w fun e w'=>e = .returned (.bool false) ∧ w = w':=by
 have cl:=hr.left
 have h1:=size_pos h
 have h1' : (0 : Int) < t.size:=by omega
 have HC : t[0]'h1 = c:=first_at h
 have hq : (((t[0]'h1).toNat : Int) != z) = true:=by rw [HC];simpa using hne
 have h0 : (t.toList.isEmpty) = false:=by
  rw [ByteArray.toList_eq]
  have : t.data.toList = c :: l:=h
  rw [this];rfl
 clear h hr hne HC
 go_enter Tryz.func177,Tryz.ntmps177
 go_wp2
 go_ret
 exact ⟨rfl,rfl⟩
theorem skip_yes (pb mb : Nat) (t : ByteArray) (c : UInt8) (l : List UInt8) (z : Int) (w : World) (hr : Rd w pb mb t) (h : Ds.bl t = c :: l) (he : (c.toNat : Int) = z) : Calls Tryz.prog 177 #[.pointer (some ⟨pb,0,none⟩),.int .u8 z] w fun e w'=>e = .returned (.bool true) ∧ w' = w.setCell ⟨pb,0,none⟩ (.string (t.extract 1 t.size)):=by
 have cl:=hr.left
 have h1:=size_pos h
 have h1' : (0 : Int) < t.size:=by omega
 have HC : t[0]'h1 = c:=first_at h
 have hq : (((t[0]'h1).toNat : Int) != z) = false:=by rw [HC];simpa using he
 have h0 : (t.toList.isEmpty) = false:=by
  rw [ByteArray.toList_eq]
  have : t.data.toList = c :: l:=h
  rw [this];rfl
 have HT:=hid (take_ok pb mb t c l w hr h)
 clear h hr he HC
 go_enter Tryz.func177,Tryz.ntmps177
 go_wp2_with (go_at_call 173;refine HT.out.mono ?_;rintro e w1 ⟨rfl,rfl⟩)
 go_ret
 exact ⟨rfl,rfl⟩
end Go.Proofs.YtnojgiflgmnjlaaGreatDoor.L2
namespace Go.Proofs.YtnojgiflgmnjlaaGreatDoor.L2
open Go.RowKit
theorem slcut_none_any (t : ByteArray) (w : World) (h : Ds.cutC 59 (Ds.bl t) = none) : Calls Tryz.prog 204 #[.string t,.string ⟨#[59]⟩] w fun e w'=>e = .returned (.tuple #[.string t,.string ⟨#[]⟩,.bool false]) ∧ w = w':=by
 have HI:=Sh.stringslite_Index_one t 59 w
 rw [Ds.idx_none h] at HI
 have HI2:=hid HI
 clear HI h
 go_enter Tryz.func204,Tryz.ntmps204
 go_wp2_with (go_at_call 198;refine HI2.out.mono ?_;rintro e w1 ⟨rfl,rfl⟩)
 go_ret3
 exact ⟨rfl,rfl⟩
theorem slcut_some_any (t : ByteArray) (a b : List UInt8) (m : Nat) (w : World) (h : Ds.cutC 59 (Ds.bl t) = some (a,b)) (hm : a.length = m) (hs : t.size ≤ 9223372036854775000) :
  Calls Tryz.prog 204 #[.string t,.string ⟨#[59]⟩] w fun e w'=>e = .returned (.tuple #[.string (t.extract 0 m),.string (t.extract (m + 1) t.size),.bool true]) ∧ ∃ nq,w.drewN nq = w':=by
 have HI:=Sh.stringslite_Index_one t 59 w
 rw [Ds.idx_some h,hm] at HI
 have HI2:=hid HI
 have hl : m < t.size:=by
  have:=congrArg List.length (Ds.cut_eq h)
  rw [bl_len,List.length_append,List.length_cons] at this
  omega
 have hl' : (m : Int) < t.size:=by omega
 clear HI h hm
 go_enter Tryz.func204,Tryz.ntmps204
 go_wp2_with (go_at_call 198;refine HI2.out.mono ?_;rintro e w1 ⟨rfl,rfl⟩)
 have hs1 : IntKind.i64.wrap ((m : Int) + 1) = (m : Int) + 1:=IntWalk.i64_in _ (by omega)
 have hs2 : (0 : Int) ≤ (m : Int) + 1:=by omega
 have hs3 : ((m : Int) + 1).toNat = m + 1:=by omega
 have hs4 : (m : Int) + 1 ≤ t.size:=by omega
 go_quiet (fail)
 clear hs1 hs2 hs3 hs4
 go_wp2
 go_ret3
 exact ⟨rfl,_,rfl⟩
theorem cut_none_any (t : ByteArray) (w : World) (h : Ds.cutC 59 (Ds.bl t) = none) : Calls Tryz.prog 191 #[.string t,.string ⟨#[59]⟩] w fun e w'=>e = .returned (.tuple #[.string t,.string ⟨#[]⟩,.bool false]) ∧ w = w':=by
 have HI2:=hid (slcut_none_any t w h)
 clear h
 go_enter Tryz.func191,Tryz.ntmps191
 go_wp2_with (go_at_call 204;refine HI2.out.mono ?_;rintro e w1 ⟨rfl,rfl⟩)
 go_ret3
 exact ⟨rfl,rfl⟩
theorem cut_some_any (t : ByteArray) (a b : List UInt8) (m : Nat) (w : World) (h : Ds.cutC 59 (Ds.bl t) = some (a,b)) (hm : a.length = m) (hs : t.size ≤ 9223372036854775000) :
  Calls Tryz.prog 191 #[.string t,.string ⟨#[59]⟩] w fun e w'=>e = .returned (.tuple #[.string (t.extract 0 m),.string (t.extract (m + 1) t.size),.bool true]) ∧ ∃ nq,w.drewN nq = w':=by
 have HI2:=hid (slcut_some_any t a b m w h hm hs)
 clear h hm
 go_enter Tryz.func191,Tryz.ntmps191
 go_wp2_with (go_at_call 204;refine HI2.out.mono ?_;rintro e w1 ⟨rfl,nq,rfl⟩)
 go_ret3
 exact ⟨rfl,_,rfl⟩
def Step (pb mb : Nat) (t' : ByteArray) (w w' : World) : Prop:=w.grownBy w' (some pb) ∧ Rd w' pb mb t'
theorem grown_of_below {w w' : World} (h : Below w.heap.size w w') (row : Option Nat) : w.grownBy w' row:=⟨h.os,h.tape,h.output,h.size,fun i hi _=>h.block i hi⟩
theorem grown_trans {a b c : World} {r : Nat} (h : a.grownBy b (some r)) (k : b.grownBy c (some r)) : a.grownBy c (some r) :=
 ⟨k.os.trans h.os,k.tape.trans h.tape,k.output.trans h.output,Nat.le_trans h.size k.size,fun i hi hne=>(k.block i (Nat.lt_of_lt_of_le hi h.size) hne).trans (h.block i hi hne)⟩
theorem Rd.keep {w w' : World} {pb mb r : Nat} {t : ByteArray} (h : Rd w pb mb t) (hg : w.grownBy w' (some r)) (hne : pb ≠ r) (hne2 : mb ≠ r) : Rd w' pb mb t:=by
 refine ⟨(hg.block pb h.sz (fun e=>hne (Option.some.inj e))).trans h.cells,?_,h.lt⟩
 obtain ⟨es,clock,h1,h2,h3,h4⟩:=h.kmap
 exact ⟨es,clock,(hg.block mb (by have:=h.sz;have:=h.lt;omega) (fun e=>hne2 (Option.some.inj e))).trans h1,h2,h3,h4⟩
theorem cut_parts {t : ByteArray} {a b : List UInt8} {m : Nat} (h : Ds.cutC 59 (Ds.bl t) = some (a,b)) (hm : a.length = m) : Ds.bl (t.extract 0 m) = a ∧ Ds.bl (t.extract (m + 1) t.size) = b ∧ m < t.size:=by
 have hl : m < t.size:=by
  have:=congrArg List.length (Ds.cut_eq h)
  rw [bl_len,List.length_append,List.length_cons] at this
  omega
 refine ⟨by rw [bl_ext,Ds.cut_eq h,← hm];simp,?_,hl⟩
 rw [bl_ext,← bl_len,Ds.cut_eq h,← hm]
 rw [show (a ++ 59 :: b).drop (a.length + 1) = b by rw [List.drop_append,List.drop_eq_nil_of_le (by omega)];simp]
 exact List.take_of_length_le (by simp;omega)
theorem nameE_ok {l : List UInt8} (h : l.length ≤ 255) : nameE l = if Ds.classB l = true then 0 else 21:=by unfold nameE;rw [if_neg (by omega)]
set_option maxHeartbeats 400000 in
theorem name_ok (pb mb : Nat) (t : ByteArray) (a b : List UInt8) (m : Nat) (w : World) (hr : Rd w pb mb t) (h : Ds.cutC 59 (Ds.bl t) = some (a,b)) (hm : a.length = m) (hc : Ds.classB a = true) (hs : t.size ≤ 255) :
  Calls Tryz.prog 175 #[.pointer (some ⟨pb,0,none⟩)] w fun e w'=>e = .returned (.string (t.extract 0 m)) ∧ Step pb mb (t.extract (m + 1) t.size) w w':=by
 have cl:=hr.left
 obtain ⟨p1,p2,p3⟩:=cut_parts h hm
 have HC:=hid (cut_some_any t a b m w h hm (by omega))
 have hn : nameE (Ds.bl (t.extract 0 m)) = 0:=by rw [nameE_ok (by rw [bl_len];have:=ext_size t 0 m;omega),p1,hc];rfl
 have HN:=fun W=>className_any (t.extract 0 m) W
 rw [hn] at HN
 have HN2:=hid HN
 have HR:=hid hr
 have hsz:=hr.sz
 clear HN h hm hc p1 p2 hn hr
 go_enter Tryz.func175,Tryz.ntmps175
 go_wp2_with (first
  | (go_at_call 191;refine HC.out.mono ?_;rintro e w0 ⟨rfl,nq,rfl⟩)
  | (go_at_call 68;refine (HN2.out _).mono ?_;rintro e w1 ⟨rfl,hb1⟩;have HR1:=hid (HR.out.below (n₀:=w.heap.size) (belows (b:=w.drewN nq) BLw hb1 (Nat.le_refl _)) hsz);have cl1:=HR1.out.left;have fl1:=HR1.out.frozen 0))
 go_ret
 exact ⟨rfl,grown_trans (grown_of_below (belows (B:=w.heap.size) (b:=w.drewN nq) BLw hb1 (Nat.le_refl _)) _) (grownBy_setCell' _ _ _),HR1.out.set _⟩
set_option maxHeartbeats 400000 in
theorem name_bad (pb mb : Nat) (t : ByteArray) (w : World) (hr : Rd w pb mb t) (h : ∀ a b,Ds.cutC 59 (Ds.bl t) = some (a,b) → Ds.classB a = false) (hs : t.size ≤ 255) :
  Calls Tryz.prog 175 #[.pointer (some ⟨pb,0,none⟩)] w fun e w'=>e = bad ∧ Below w.heap.size w w':=by
 have cl:=hr.left
 unfold bad
 cases hcut : Ds.cutC 59 (Ds.bl t) with
 | none =>
  have HC:=hid (cut_none_any t w hcut)
  clear h hr hcut
  go_enter Tryz.func175,Tryz.ntmps175
  go_wp2_with (go_at_call 191;refine HC.out.mono ?_;rintro e w1 ⟨rfl,rfl⟩)
  exact ⟨rfl,rfl,BLw⟩
 | some ab =>
  obtain ⟨a,b⟩:=ab
  have hc:=h a b hcut
  obtain ⟨m,hm⟩ : ∃ m,a.length = m:=⟨_,rfl⟩
  obtain ⟨p1,p2,p3⟩:=cut_parts hcut hm
  have HC:=hid (cut_some_any t a b m w hcut hm (by omega))
  have hn : nameE (Ds.bl (t.extract 0 m)) = 21:=by rw [nameE_ok (by rw [bl_len];have:=ext_size t 0 m;omega),p1,hc];rfl
  have HN:=fun W=>className_any (t.extract 0 m) W
  rw [hn] at HN
  have HN2:=hid HN
  clear HN h hm hc p1 p2 hn hr hcut
  go_enter Tryz.func175,Tryz.ntmps175
  go_wp2_with (first
   | (go_at_call 191;refine HC.out.mono ?_;rintro e w0 ⟨rfl,nq,rfl⟩)
   | (go_at_call 68;refine (HN2.out _).mono ?_;rintro e w1 ⟨rfl,hb1⟩))
  exact ⟨rfl,rfl,belows (b:=w.drewN nq) BLw hb1 (Nat.le_refl _)⟩
end Go.Proofs.YtnojgiflgmnjlaaGreatDoor.L2
namespace Go.Proofs.YtnojgiflgmnjlaaGreatDoor.L2.Ds
def rd : List UInt8 → Option (Int × List UInt8 × Nat)
 | []=>none
 | c :: l =>
  if c = 73 then some (1,[],1)
  else if c = 74 then some (2,[],1)
  else if c = 91 then match rd l with|none=>none|some (_,_,n)=>some (4,(c :: l).take (n + 1),n + 1)
  else if c = 76 then match cutC 59 l with|none=>none|some (a,_)=>if classB a = true then some (4,a,a.length + 2) else none
  else none
theorem rd_len : ∀ {l : List UInt8} {k : Int} {m : List UInt8} {n : Nat},rd l = some (k,m,n) → 1 ≤ n ∧ n ≤ l.length
 | [],_,_,_,h=>by cases h
 | c :: l,k,m,n,h=>by
  unfold rd at h
  split at h
  ·simp only [Option.some.injEq,Prod.mk.injEq] at h
   rw [List.length_cons];omega
  ·split at h
   ·simp only [Option.some.injEq,Prod.mk.injEq] at h
    rw [List.length_cons];omega
   ·split at h
    ·cases hr : rd l with
     | none=>rw [hr] at h;cases h
     | some x =>
      obtain ⟨k',m',n'⟩:=x
      rw [hr] at h
      simp only [Option.some.injEq,Prod.mk.injEq] at h
      have:=rd_len hr
      rw [List.length_cons];omega
    ·split at h
     ·cases hr : cutC 59 l with
      | none=>rw [hr] at h;cases h
      | some x =>
       obtain ⟨a,b⟩:=x
       rw [hr] at h
       dsimp only at h
       split at h
       ·simp only [Option.some.injEq,Prod.mk.injEq] at h
        have:=congrArg List.length (cut_eq hr)
        rw [List.length_append,List.length_cons] at this
        rw [List.length_cons];omega
       ·cases h
     ·cases h
end Go.Proofs.YtnojgiflgmnjlaaGreatDoor.L2.Ds
namespace Go.Proofs.YtnojgiflgmnjlaaGreatDoor.L2
open Go.RowKit
theorem ba_ext {a b : ByteArray} (h : Ds.bl a = Ds.bl b) : a = b:=by
 cases a;cases b
 simp only [Ds.bl,Array.toList_inj] at h
 rw [h]
theorem ba_of {a : ByteArray} {l : List UInt8} (h : Ds.bl a = l) : a = ⟨l.toArray⟩:=ba_ext (by rw [h])
def tyV (k : Int) (m : List UInt8) : Value:=.agg #[.int .i64 k,.string ⟨m.toArray⟩]
def RB (w : World) (B : Nat) : Prop:=w.heap[B]? = some (.cells #[.int .i64 0,.string ⟨#[]⟩] 132 (0,0))
theorem RB.new (w : World) : RB (w.alloc (.cells #[.int .i64 0,.string ⟨#[]⟩] 132)) w.heap.size:=World.alloc_heap_new w _
theorem RB.sz {w : World} {B : Nat} (h : RB w B) : B < w.heap.size:=(Array.getElem?_eq_some_iff.1 h).1
theorem RB.keep {w w' : World} {B r : Nat} (h : RB w B) (hg : w.grownBy w' (some r)) (hne : B ≠ r) : RB w' B:=(hg.block B h.sz (fun e=>hne (Option.some.inj e))).trans h
theorem RB.facts {w : World} {B : Nat} (h : RB w B) : w.cell? ⟨B,0,none⟩ = some (.int .i64 0) ∧ w.cell? ⟨B,1,none⟩ = some (.string ⟨#[]⟩) ∧ w.frozen? ⟨B,0,none⟩ = false ∧ w.frozen? ⟨B,1,none⟩ = false:=by
 refine ⟨?_,?_,?_,?_⟩ <;> simp [World.cell?,World.frozen?,show w.heap[B]? = _ from h]
theorem take_step (pb mb : Nat) (t : ByteArray) (c : UInt8) (l : List UInt8) (w : World) (hr : Rd w pb mb t) (h : Ds.bl t = c :: l) : Calls Tryz.prog 173 #[.pointer (some ⟨pb,0,none⟩)] w fun e w'=>e = .returned (.int .u8 (c.toNat : Nat)) ∧ Step pb mb (t.extract 1 t.size) w w' :=
 (take_ok pb mb t c l w hr h).mono fun _ _ ⟨he,hw⟩=>⟨he,by subst hw;exact ⟨grownBy_setCell' _ _ _,hr.set _⟩⟩
theorem reference_any (s : ByteArray) (w : World) : Calls Tryz.prog 174 #[.string s] w fun e w'=>e = .returned (.agg #[.int .i64 4,.string s]) ∧ Below w.heap.size w w':=by
 go_enter Tryz.func174,Tryz.ntmps174
 go_wp2
 exact bodyPost_ret (v:=.agg #[.int .i64 4,.string s]) (by simp [results,Tryz.results174,go_sem]) rfl ⟨rfl,BLw⟩
def FieldOk (pb mb : Nat) (k : Int) (m : List UInt8) (t' : ByteArray) (w : World) (e : Ending) (w' : World) : Prop:=e = .returned (tyV k m) ∧ Step pb mb t' w w'
theorem box_grown {w w' : World} {o : Obj} {r : Nat} (h : (w.alloc o).grownBy w' (some r)) : w.grownBy w' (some r):=grown_trans (grown_of_below ((Below.refl _ w).alloc (Nat.le_refl _) o) _) h
theorem store_grown {w w' : World} {B r : Nat} {a b : Value} (hB : w.heap.size ≤ B) (h : w.grownBy w' (some r)) : w.grownBy ((w'.setCell ⟨B,0,none⟩ a).setCell ⟨B,1,none⟩ b) (some r):=by
 refine ⟨h.os,h.tape,h.output,by simp;exact h.size,fun i hi hne=>?_⟩
 rw [Below.heap_setCell _ _ _ i (by show i ≠ B;omega),Below.heap_setCell _ _ _ i (by show i ≠ B;omega)]
 exact h.block i hi hne
theorem Rd.store {w : World} {pb mb B : Nat} {t : ByteArray} {a b : Value} (h : Rd w pb mb t) (h1 : pb ≠ B) (h2 : mb ≠ B) : Rd ((w.setCell ⟨B,0,none⟩ a).setCell ⟨B,1,none⟩ b) pb mb t:=by
 have hg : ∀ (j : Nat) (u : World) (v : Value),u.grownBy (u.setCell ⟨B,j,none⟩ v) (some B):=fun j u v=>⟨rfl,rfl,rfl,by simp,fun i _ hne=>Below.heap_setCell _ _ _ i (fun e=>hne (by rw [e]))⟩
 exact (h.keep (hg 0 _ _) h1 h2).keep (hg 1 _ _) h1 h2
set_option maxHeartbeats 400000 in
theorem field_letter (pb mb : Nat) (t : ByteArray) (c : UInt8) (l : List UInt8) (w : World) (hr : Rd w pb mb t) (h : Ds.bl t = c :: l) (hk : isK c = true) (h91 : ((c.toNat : Int) == 91) = false) (h76 : ((c.toNat : Int) == 76) = false) :
  Calls Tryz.prog 149 #[.pointer (some ⟨pb,0,none⟩)] w (FieldOk pb mb (kindOf c) [] (t.extract 1 t.size) w):=by
 unfold FieldOk tyV
 have cl:=hr.left
 have hps:=hr.sz
 have hmp:=hr.lt
 have HT:=hid (fun W (hW : Below w.heap.size w W)=>take_step pb mb t c l W (hr.below hW hps) h)
 have hRB:=RB.new w
 have HRB:=hid hRB
 have HK:=hid hk
 clear hr h hRB hk
 go_enter Tryz.func149,Tryz.ntmps149
 go_wp2_with (go_at_call 173;refine (HT.out _ BLw).mono ?_;rintro e w1 ⟨rfl,hg1,hr1⟩;have HR1:=hid hr1;have cl1:=hr1.left;have ck1:=hr1.kinds;have hlk:=kmap_look hr1.kmap c;rw [HK.out] at hlk;have HRB1:=hid (HRB.out.keep hg1 (by omega));obtain ⟨b0,b1,f0,f1⟩:=HRB1.out.facts;have HG1:=hid hg1;clear hr1 hg1)
 exact bodyPost_ret (v:=.agg #[.int .i64 (kindOf c),.string ⟨#[]⟩]) (by simp [results,Tryz.results149,go_sem,b0,b1]) rfl ⟨rfl,store_grown (Nat.le_refl _) (box_grown HG1.out),HR1.out.store (by omega) (by omega)⟩
theorem rest_size {t : ByteArray} {c : UInt8} {l : List UInt8} (h : Ds.bl t = c :: l) : (t.extract 1 t.size).size = l.length ∧ t.size = l.length + 1:=by
 have h1:=congrArg List.length (rest_at h)
 have h2:=congrArg List.length h
 rw [bl_len] at h1 h2
 exact ⟨h1,by rw [h2];rfl⟩
set_option maxHeartbeats 400000 in
theorem field_obj (pb mb : Nat) (t : ByteArray) (l a b : List UInt8) (m : Nat) (w : World) (hr : Rd w pb mb t) (h : Ds.bl t = 76 :: l) (hcut : Ds.cutC 59 l = some (a,b)) (hm : a.length = m) (hcl : Ds.classB a = true) (hs : t.size ≤ 255) :
  Calls Tryz.prog 149 #[.pointer (some ⟨pb,0,none⟩)] w (FieldOk pb mb 4 a (t.extract (m + 2) t.size) w):=by
 unfold FieldOk tyV
 have cl:=hr.left
 have hps:=hr.sz
 have hmp:=hr.lt
 have HT:=hid (fun W (hW : Below w.heap.size w W)=>take_step pb mb t 76 l W (hr.below hW hps) h)
 obtain ⟨z1,z2⟩:=rest_size h
 have hb1:=rest_at h
 have hcut' : Ds.cutC 59 (Ds.bl (t.extract 1 t.size)) = some (a,b):=by rw [hb1];exact hcut
 have HN:=hid (fun W (hW : Rd W pb mb (t.extract 1 t.size))=>name_ok pb mb (t.extract 1 t.size) a b m W hW hcut' hm hcl (by omega))
 obtain ⟨p1,p2,p3⟩:=cut_parts hcut' hm
 have E1:=hid (ba_of p1)
 have E2 : Hid ((t.extract 1 t.size).extract (m + 1) (t.extract 1 t.size).size = t.extract (m + 2) t.size):=by
  refine ba_ext ?_
  rw [p2,bl_ext,h]
  have h2:=Ds.cut_eq hcut
  rw [h2,show (m + 2) = (a.length + 1) + 1 by omega,List.drop_succ_cons,List.drop_append,List.drop_eq_nil_of_le (by omega)]
  rw [show a.length + 1 - a.length = 1 by omega]
  rw [List.nil_append,List.drop_succ_cons,List.drop_zero]
  rw [List.take_of_length_le]
  rw [z2,h2,List.length_append,List.length_cons];omega
 have hRB:=RB.new w
 have HRB:=hid hRB
 clear hr h hRB hcut hcut' hm hcl p1 p2 p3 hb1 z1 z2
 go_enter Tryz.func149,Tryz.ntmps149
 go_wp2_with (first
  | (go_at_call 173;refine (HT.out _ BLw).mono ?_;rintro e w1 ⟨rfl,hg1,hr1⟩;have HR1:=hid hr1;have HRB1:=hid (HRB.out.keep hg1 (by omega));have HG1:=hid hg1;clear hr1 hg1)
  | (go_at_call 175;refine (HN.out _ HR1.out).mono ?_;rintro e w2 ⟨rfl,hg2,hr2⟩;have HR2:=hid hr2;have HRB2:=hid (HRB1.out.keep hg2 (by omega));have HG2:=hid hg2;clear hr2 hg2)
  | (go_at_call 174;refine (reference_any _ _).mono ?_;rintro e w3 ⟨rfl,hb3⟩;have HR3:=hid (HR2.out.below hb3 HR2.out.sz);have HRB3:=hid (HRB2.out.keep (grown_of_below hb3 (some pb)) (by omega));obtain ⟨b0,b1,f0,f1⟩:=HRB3.out.facts;have HB3:=hid hb3;clear hb3))
 exact bodyPost_ret (v:=.agg #[.int .i64 4,.string ((t.extract 1 t.size).extract 0 m)]) (by simp [results,Tryz.results149,go_sem,b0,b1]) rfl ⟨by rw [E1.out],store_grown (Nat.le_refl _) (box_grown (grown_trans (grown_trans HG1.out HG2.out) (grown_of_below HB3.out _))),by rw [← E2.out];exact HR3.out.store (by omega) (by omega)⟩
set_option maxHeartbeats 400000 in
theorem field_arr (pb mb : Nat) (t q : ByteArray) (l : List UInt8) (n j : Nat) (k : Int) (x : List UInt8) (w : World) (hr : Rd w pb mb t) (h : Ds.bl t = 91 :: l) (hq : Ds.bl q = l.drop n) (hn : n ≤ l.length) (hj : n + 1 = j) (hs : t.size ≤ 255)
  (HF : ∀ W,Rd W pb mb (t.extract 1 t.size) → Calls Tryz.prog 149 #[.pointer (some ⟨pb,0,none⟩)] W (FieldOk pb mb k x q W)) :
  Calls Tryz.prog 149 #[.pointer (some ⟨pb,0,none⟩)] w (FieldOk pb mb 4 ((91 :: l).take j) q w):=by
 unfold FieldOk tyV at HF ⊢
 have cl:=hr.left
 have hps:=hr.sz
 have hmp:=hr.lt
 have HT:=hid (fun W (hW : Below w.heap.size w W)=>take_step pb mb t 91 l W (hr.below hW hps) h)
 have HF2:=hid HF
 obtain ⟨z1,z2⟩:=rest_size h
 have z3 : q.size = l.length - n:=by rw [← bl_len,hq,List.length_drop]
 have hs1 : IntKind.i64.wrap ((t.size : Int) - (q.size : Int)) = (j : Int):=by rw [show (t.size : Int) - (q.size : Int) = (j : Int) by omega];exact IntWalk.i64_in _ (by omega)
 have hs2 : (j : Int) ≤ t.size:=by omega
 have E1:=hid (show Ds.bl (t.extract 0 j) = (91 :: l).take j by rw [bl_ext,h];simp)
 have E2:=hid (ba_of E1.out)
 have hRB:=RB.new w
 have HRB:=hid hRB
 clear hr h hRB HF z1 z2 z3 hj hn hq
 go_enter Tryz.func149,Tryz.ntmps149
 go_wp2_with (first
  | (go_at_call 173;refine (HT.out _ BLw).mono ?_;rintro e w1 ⟨rfl,hg1,hr1⟩;have HR1:=hid hr1;have HRB1:=hid (HRB.out.keep hg1 (by omega));have HG1:=hid hg1;clear hr1 hg1)
  | (go_at_call 149;refine (HF2.out _ HR1.out).mono ?_;rintro e w2 ⟨rfl,hg2,hr2⟩;have HR2:=hid hr2;have cl2:=hr2.left;have HRB2:=hid (HRB1.out.keep hg2 (by omega));have HG2:=hid hg2;clear hr2 hg2)
  | (go_at_call 174;refine (reference_any _ _).mono ?_;rintro e w3 ⟨rfl,hb3⟩;have HR3:=hid (HR2.out.below hb3 HR2.out.sz);have HRB3:=hid (HRB2.out.keep (grown_of_below hb3 (some pb)) (by omega));obtain ⟨b0,b1,f0,f1⟩:=HRB3.out.facts;have HB3:=hid hb3;clear hb3))
 exact bodyPost_ret (v:=.agg #[.int .i64 4,.string (t.extract 0 j)]) (by simp [results,Tryz.results149,go_sem,b0,b1]) rfl ⟨by rw [E2.out],store_grown (Nat.le_refl _) (box_grown (grown_trans (grown_trans HG1.out HG2.out) (grown_of_below HB3.out _))),HR3.out.store (by omega) (by omega)⟩
def Bad (pb : Nat) (w : World) (e : Ending) (w' : World) : Prop:=e = bad ∧ w.grownBy w' (some pb)
set_option maxHeartbeats 400000 in
theorem field_bad0 (pb mb : Nat) (t : ByteArray) (w : World) (hr : Rd w pb mb t) (h : Ds.bl t = []) :
  Calls Tryz.prog 149 #[.pointer (some ⟨pb,0,none⟩)] w (Bad pb w):=by
 unfold Bad bad
 have cl:=hr.left
 have hps:=hr.sz
 have hmp:=hr.lt
 have HT:=hid (fun W (hW : Below w.heap.size w W)=>take_bad pb mb t W (hr.below hW hps) h)
 clear hr h
 unfold bad at HT
 go_enter Tryz.func149,Tryz.ntmps149
 go_wp2_with (first
  | (go_at_call 173;refine (HT.out _ BLw).mono ?_;rintro e w1 ⟨rfl,rfl⟩))
 exact ⟨rfl,rfl,grown_of_below BLw _⟩
set_option maxHeartbeats 400000 in
theorem field_badK (pb mb : Nat) (t : ByteArray) (c : UInt8) (l : List UInt8) (w : World) (hr : Rd w pb mb t) (h : Ds.bl t = c :: l) (hk : isK c = false) (h91 : ((c.toNat : Int) == 91) = false) (h76 : ((c.toNat : Int) == 76) = false) :
  Calls Tryz.prog 149 #[.pointer (some ⟨pb,0,none⟩)] w (Bad pb w):=by
 unfold Bad bad
 have cl:=hr.left
 have hps:=hr.sz
 have hmp:=hr.lt
 have HT:=hid (fun W (hW : Below w.heap.size w W)=>take_step pb mb t c l W (hr.below hW hps) h)
 have HK:=hid hk
 clear hr h hk
 go_enter Tryz.func149,Tryz.ntmps149
 go_wp2_with (go_at_call 173;refine (HT.out _ BLw).mono ?_;rintro e w1 ⟨rfl,hg1,hr1⟩;have HR1:=hid hr1;have cl1:=hr1.left;have ck1:=hr1.kinds;have hlk:=kmap_look hr1.kmap c;rw [HK.out] at hlk;have HG1:=hid hg1;clear hr1 hg1)
 exact ⟨rfl,rfl,box_grown HG1.out⟩
set_option maxHeartbeats 400000 in
theorem field_badN (pb mb : Nat) (t : ByteArray) (l : List UInt8) (w : World) (hr : Rd w pb mb t) (h : Ds.bl t = 76 :: l) (hn : ∀ a b,Ds.cutC 59 l = some (a,b) → Ds.classB a = false) (hs : t.size ≤ 255) :
  Calls Tryz.prog 149 #[.pointer (some ⟨pb,0,none⟩)] w (Bad pb w):=by
 unfold Bad
 have cl:=hr.left
 have hps:=hr.sz
 have hmp:=hr.lt
 have HT:=hid (fun W (hW : Below w.heap.size w W)=>take_step pb mb t 76 l W (hr.below hW hps) h)
 obtain ⟨z1,z2⟩:=rest_size h
 have hb1:=rest_at h
 rw [← hb1] at hn
 have HN:=hid (fun W (hW : Rd W pb mb (t.extract 1 t.size))=>name_bad pb mb (t.extract 1 t.size) W hW hn (by omega))
 clear hr h hn hb1 z1 z2
 unfold bad at HN ⊢
 go_enter Tryz.func149,Tryz.ntmps149
 go_wp2_with (first
  | (go_at_call 173;refine (HT.out _ BLw).mono ?_;rintro e w1 ⟨rfl,hg1,hr1⟩;have HR1:=hid hr1;have HG1:=hid hg1;clear hr1 hg1)
  | (go_at_call 175;refine (HN.out _ HR1.out).mono ?_;rintro e w2 ⟨rfl,hb2⟩;have HB2:=hid hb2;clear hb2))
 exact ⟨rfl,rfl,box_grown (grown_trans HG1.out (grown_of_below HB2.out _))⟩
set_option maxHeartbeats 400000 in
theorem field_badA (pb mb : Nat) (t : ByteArray) (l : List UInt8) (w : World) (hr : Rd w pb mb t) (h : Ds.bl t = 91 :: l)
  (HF : ∀ W,Rd W pb mb (t.extract 1 t.size) → Calls Tryz.prog 149 #[.pointer (some ⟨pb,0,none⟩)] W (Bad pb W)) :
  Calls Tryz.prog 149 #[.pointer (some ⟨pb,0,none⟩)] w (Bad pb w):=by
 unfold Bad bad at HF ⊢
 have cl:=hr.left
 have hps:=hr.sz
 have hmp:=hr.lt
 have HT:=hid (fun W (hW : Below w.heap.size w W)=>take_step pb mb t 91 l W (hr.below hW hps) h)
 have HF2:=hid HF
 clear hr h HF
 go_enter Tryz.func149,Tryz.ntmps149
 go_wp2_with (first
  | (go_at_call 173;refine (HT.out _ BLw).mono ?_;rintro e w1 ⟨rfl,hg1,hr1⟩;have HR1:=hid hr1;have HG1:=hid hg1;clear hr1 hg1)
  | (go_at_call 149;refine (HF2.out _ HR1.out).mono ?_;rintro e w2 ⟨rfl,hg2⟩;have HG2:=hid hg2;clear hg2))
 exact ⟨rfl,rfl,box_grown (grown_trans HG1.out HG2.out)⟩
def FieldPost (pb mb : Nat) (t : ByteArray) (w : World) : Ending → World → Prop:=match Ds.rd (Ds.bl t) with
 | none=>Bad pb w
 | some (k,m,n)=>FieldOk pb mb k m (t.extract n t.size) w
theorem ext_drop (t : ByteArray) (n : Nat) : Ds.bl (t.extract n t.size) = (Ds.bl t).drop n:=by
 rw [bl_ext]
 exact List.take_of_length_le (by rw [List.length_drop,bl_len];omega)
theorem ext_ext (t : ByteArray) (n m : Nat) : (t.extract n t.size).extract m (t.extract n t.size).size = t.extract (n + m) t.size:=ba_ext (by rw [ext_drop,ext_drop,ext_drop,List.drop_drop])
theorem u8_ne {c k : UInt8} (h : ¬ c = k) : ((c.toNat : Int) == (k.toNat : Int)) = false:=by
 rw [beq_eq_false_iff_ne];intro e;exact h (UInt8.toNat_inj.1 (by omega))
theorem field_rd (pb mb : Nat) : ∀ (l : List UInt8) (t : ByteArray) (w : World),Rd w pb mb t → Ds.bl t = l → t.size ≤ 255 → Calls Tryz.prog 149 #[.pointer (some ⟨pb,0,none⟩)] w (FieldPost pb mb t w)
 | [],t,w,hr,h,_=>by unfold FieldPost;rw [h];exact field_bad0 pb mb t w hr h
 | c :: l,t,w,hr,h,hs=>by
  have IH:=field_rd pb mb l
  unfold FieldPost at IH ⊢
  obtain ⟨z1,z2⟩:=rest_size h
  have hb1:=rest_at h
  rw [h]
  unfold Ds.rd
  by_cases c1 : c = 73
  ·subst c1;rw [if_pos rfl]
   exact field_letter pb mb t 73 l w hr h rfl rfl rfl
  rw [if_neg c1]
  by_cases c2 : c = 74
  ·subst c2;rw [if_pos rfl]
   exact field_letter pb mb t 74 l w hr h rfl rfl rfl
  rw [if_neg c2]
  by_cases c3 : c = 91
  ·subst c3;rw [if_pos rfl]
   have IH2 : ∀ W,Rd W pb mb (t.extract 1 t.size) → _:=fun W hW=>IH (t.extract 1 t.size) W hW hb1 (by omega)
   rw [hb1] at IH2
   cases hrd : Ds.rd l with
   | none=>rw [hrd] at IH2;exact field_badA pb mb t l w hr h IH2
   | some x =>
    obtain ⟨k,m,n⟩:=x
    rw [hrd] at IH2
    have hn:=Ds.rd_len hrd
    have:=field_arr pb mb t _ l n (n + 1) k m w hr h (by rw [ext_drop,hb1]) hn.2 rfl hs IH2
    rw [ext_ext,Nat.add_comm 1 n] at this
    exact this
  rw [if_neg c3]
  by_cases c4 : c = 76
  ·subst c4;rw [if_pos rfl]
   cases hcut : Ds.cutC 59 l with
   | none=>exact field_badN pb mb t l w hr h (fun a b e=>by rw [hcut] at e;cases e) hs
   | some ab =>
    obtain ⟨a,b⟩:=ab
    dsimp only
    cases hc : Ds.classB a with
    | true=>exact field_obj pb mb t l a b a.length w hr h hcut rfl hc hs
    | false=>exact field_badN pb mb t l w hr h (fun a' b' e=>by rw [hcut] at e;cases e;exact hc) hs
  rw [if_neg c4]
  exact field_badK pb mb t c l w hr h (by simp [isK,c1,c2]) (u8_ne c3) (u8_ne c4)
end Go.Proofs.YtnojgiflgmnjlaaGreatDoor.L2
namespace Go.Proofs.YtnojgiflgmnjlaaGreatDoor.L2.Ds
abbrev Ty:=Int × List UInt8
def argsF : Nat → List UInt8 → Option (List Ty × List UInt8)
 | 0,_=>none
 | _ + 1,[]=>none
 | f + 1,c :: l=>if c = 41 then some ([],l) else match rd (c :: l) with
  | none=>none
  | some (k,m,n)=>match argsF f ((c :: l).drop n) with
   | none=>none
   | some (a,r)=>some ((k,m) :: a,r)
def retF : List UInt8 → Option (Ty × List UInt8)
 | []=>none
 | c :: l=>if c = 86 then some ((0,[]),l) else match rd (c :: l) with
  | none=>none
  | some (k,m,n)=>some ((k,m),(c :: l).drop n)
def retM (a : List Ty) (l : List UInt8) : Option (List Ty × Ty × List UInt8):=match retF l with|none=>none|some (y,s)=>some (a,y,s)
def mdA (xs : List Ty) (f : Nat) (l : List UInt8) : Option (List Ty × Ty × List UInt8):=match argsF f l with
 | none=>none
 | some (a,r)=>retM (xs ++ a) r
def md : List UInt8 → Option (List Ty × Ty × List UInt8)
 | []=>none
 | c :: l=>if c = 40 then mdA [] (l.length + 1) l else none
theorem mdA_nil {xs : List Ty} {f : Nat} : mdA xs (f + 1) [] = none:=rfl
theorem mdA_shut {xs : List Ty} {f : Nat} {l : List UInt8} : mdA xs (f + 1) (41 :: l) = retM xs l:=by
 unfold mdA argsF
 rw [if_pos rfl]
 dsimp only
 rw [List.append_nil]
theorem mdA_bad {xs : List Ty} {f : Nat} {c : UInt8} {l : List UInt8} (hc : ¬ c = 41) (h : rd (c :: l) = none) : mdA xs (f + 1) (c :: l) = none:=by
 unfold mdA argsF
 rw [if_neg hc,h]
theorem mdA_step {xs : List Ty} {f : Nat} {c : UInt8} {l : List UInt8} {k : Int} {m : List UInt8} {n : Nat} (hc : ¬ c = 41) (h : rd (c :: l) = some (k,m,n)) : mdA xs (f + 1) (c :: l) = mdA (xs ++ [(k,m)]) f ((c :: l).drop n):=by
 unfold mdA
 conv=>lhs;unfold argsF
 rw [if_neg hc,h]
 dsimp only
 cases argsF f ((c :: l).drop n) with
 | none=>rfl
 | some y=>obtain ⟨a,r⟩:=y;dsimp only;rw [List.append_assoc];rfl
end Go.Proofs.YtnojgiflgmnjlaaGreatDoor.L2.Ds
