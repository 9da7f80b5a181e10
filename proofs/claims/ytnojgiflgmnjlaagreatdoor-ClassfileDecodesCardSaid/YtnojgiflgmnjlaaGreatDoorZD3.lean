/- Own texts for the claim, part 3. -/
import Derived.Test.YtnojgiflgmnjlaaGreatDoorZD2
set_option maxRecDepth 100000
namespace Go.Proofs.YtnojgiflgmnjlaaGreatDoor.L3
open Go.RowKit
set_option maxHeartbeats 400000 in
theorem get_any (lim : Nat) (bs : List UInt8) (v : Value) (w : World) (hv : Bs lim w v bs) :
  Calls Tryz.prog 82 #[v] w fun e w'=>e = .returned (.int .i64 (Cp.numI bs)) ∧ w = w':=by
 have HV:=hid hv
 have hl:=hv.1
 obtain ⟨a,cap,rfl⟩:=hv.len
 clear hv
 go_enter Tryz.func82,Tryz.ntmps82
 go_wp2
 go_loopw [3,4] (fun n i wr=>∃ j : Nat,j ≤ bs.length ∧ i = .int .i64 j ∧ n = .int .i64 (Cp.numI (bs.take j)) ∧ wr = w) (fun _ i _=>bs.length - (intOf i).toNat)
 case atStart=>exact ⟨0,by omega,rfl,rfl,rfl⟩
 case round =>
  obtain ⟨j,hj,rfl,rfl,rfl⟩:=hrel
  by_cases hlt : j < bs.length
  ·obtain ⟨c,hc⟩ : ∃ c,bs[j]? = some c:=⟨bs[j],List.getElem?_eq_getElem (by omega)⟩
   obtain ⟨b,o,ha,hb,hcell⟩:=HV.out.at hc
   have HStep:=hid (numI_step hc)
   obtain ⟨z,hz⟩ : ∃ z,z = Cp.numI (bs.take j):=⟨_,rfl⟩
   rw [← hz] at HStep ⊢
   have hor : bits .or .i64 (wrap64 (z * 256)) (c.toNat : Int) = wrap64 (z * 256 + (c.toNat : Int)):=Cp.or_step z c.toNat (Cp.u8_lt c)
   subst ha
   have hji : (j : Int) < bs.length:=by omega
   clear hc hz
   go_wp2
   go_roundw
   case rel=>exact ⟨j + 1,by omega,by go_num,by rw [HStep.out,← hor,show wrap64 (c.toNat : Int) = (c.toNat : Int) by have:=Cp.u8_lt c;unfold wrap64;omega],by trivial⟩
   case measure=>simp [intOf];omega
  ·obtain rfl : j = bs.length:=by omega
   have HE:=hid (show bs.take bs.length = bs from List.take_length)
   go_wp2
   go_ret
   exact ⟨by show Ending.returned (.int .i64 (Cp.numI (bs.take bs.length))) = _;rw [HE.out],rfl⟩
set_option maxHeartbeats 400000 in
theorem known_any (t : Int) (w : World) : Calls Tryz.prog 139 #[.int .i64 t] w fun e w'=>e = .returned (.bool (Cp.knownB t)) ∧ w = w':=by
 have H:=hid (show (t == 1 || t == 3 || t == 5 || t == 7 || t == 9 || t == 10 || t == 12) = Cp.knownB t by
  unfold Cp.knownB
  rw [Bool.eq_iff_iff]
  simp [or_assoc])
 go_enter Tryz.func139,Tryz.ntmps139
 go_wp2
 all_goals go_ret
 all_goals first|exact ⟨by rw [← H.out];rfl,rfl⟩|exact ⟨by show Ending.returned (.bool true) = _;rw [← H.out];simp [*],rfl⟩
def szOf (t : Int) : Nat:=if t = 1 ∨ t = 7 then 2 else if t = 5 then 8 else 4
set_option maxHeartbeats 400000 in
theorem size_any (t : Int) (w : World) : Calls Tryz.prog 140 #[.int .i64 t] w fun e w'=>e = .returned (.int .i64 (szOf t)) ∧ w = w':=by
 unfold szOf
 by_cases h1 : t = 1
 ·subst h1
  go_enter Tryz.func140,Tryz.ntmps140
  go_wp2
  go_ret
  exact ⟨rfl,rfl⟩
 by_cases h7 : t = 7
 ·subst h7
  go_enter Tryz.func140,Tryz.ntmps140
  go_wp2
  go_ret
  exact ⟨rfl,rfl⟩
 rw [if_neg (by omega)]
 by_cases h5 : t = 5
 ·subst h5
  go_enter Tryz.func140,Tryz.ntmps140
  go_wp2
  go_ret
  exact ⟨rfl,rfl⟩
 ·rw [if_neg h5]
  go_enter Tryz.func140,Tryz.ntmps140
  go_wp2
  go_ret
  exact ⟨rfl,rfl⟩
set_option maxHeartbeats 400000 in
theorem texts_any (s : ByteArray) (w : World) (hs : s.size ≤ 140737488355328) :
  Calls Tryz.prog 141 #[.string s] w fun e w'=>e = .returned (.bool (Cp.plainB (Cp.bl s) && decide (s.size ≤ 255))) ∧ w = w':=by
 unfold Cp.plainB
 obtain ⟨f,hf⟩ : ∃ f : UInt8 → Bool,f = fun c=>decide (1 ≤ c.toNat) && decide (c.toNat ≤ 127):=⟨_,rfl⟩
 rw [← hf]
 obtain ⟨r,hr⟩ : ∃ r,r = (Cp.bl s).all f:=⟨_,rfl⟩
 rw [← hr]
 have HR:=hid hr
 clear hr
 go_enter Tryz.func141,Tryz.ntmps141
 go_wp2
 go_loop [3] (fun i=>∃ k : Nat,k ≤ s.size ∧ i = .int .i64 k ∧ Hid (((Cp.bl s).take k).all f = true)) (fun i=>s.size - (intOf i).toNat)
 case atStart=>exact ⟨0,Nat.zero_le _,rfl,rfl⟩
 case round =>
  obtain ⟨k,hk,rfl,hg⟩:=hrel
  by_cases hlt : k < s.size
  ·have HF0 : f s[k] = (decide (1 ≤ s[k].toNat) && decide (s[k].toNat ≤ 127)):=by rw [hf]
   clear hf
   by_cases h1 : s[k].toNat = 0
   ·have hd : ((s[k].toNat : Int) == 0) = true:=by rw [beq_iff_eq];omega
    have HF:=hid (HR.out.trans <| all_bad (f:=f) hlt (by rw [HF0];simp;omega))
    clear HF0
    go_wp2
    go_ret
    exact ⟨by rw [HF.out];rfl,rfl⟩
   ·have hd : ((s[k].toNat : Int) == 0) = false:=by rw [beq_eq_false_iff_ne];omega
    by_cases h2 : 127 < (s[k].toNat : Int)
    ·have hd2 : decide (127 < (s[k].toNat : Int)) = true:=by simpa using h2
     have HF:=hid (HR.out.trans <| all_bad (f:=f) hlt (by rw [HF0];simp;omega))
     clear HF0
     go_wp2
     go_ret
     exact ⟨by rw [HF.out];rfl,rfl⟩
    ·have hd2 : decide (127 < (s[k].toNat : Int)) = false:=by simpa using h2
     have HF:=hid (all_take_step hlt hg.out (by rw [HF0];simp;omega))
     clear HF0
     go_wp2
     go_round
     case rel=>exact ⟨k + 1,by omega,by go_num,HF⟩
     case measure=>simp [intOf];omega
  ·obtain rfl : k = s.size:=by omega
   have HF : Hid (r = true):=by
    have h:=hg.out
    show r = true
    rw [HR.out]
    rwa [List.take_of_length_le (by rw [bl_len];exact Nat.le_refl _)] at h
   go_wp2
   go_ret
   refine ⟨?_,rfl⟩
   rw [HF.out,Bool.true_and]
   have hdd : decide ((s.size : Int) ≤ 255) = decide (s.size ≤ 255):=by rw [decide_eq_decide];omega
   show Ending.returned (.bool (decide ((s.size : Int) ≤ 255))) = _
   rw [hdd]
end Go.Proofs.YtnojgiflgmnjlaaGreatDoor.L3
namespace Go.Proofs.YtnojgiflgmnjlaaGreatDoor.L3
open Go.RowKit
theorem txP_0 (r : List UInt8) : txP 0 r = .ok ([],r):=by
 unfold txP
 rw [if_neg (by omega),List.take_zero,show Cp.numI [] = 0 from rfl,if_neg (by decide),if_neg (by omega),if_pos (by rfl)]
 rfl
theorem en_utf (room : Int) (r : List UInt8) : enP room (1 :: r) = match txP 2 r with|.error e=>.error e|.ok (s,r1)=>.ok (⟨1,⟨s.toArray⟩,0,0,0⟩,r1):=by
 unfold enP
 dsimp only
 rw [show ((1 : UInt8).toNat : Int) = 1 from rfl,show Cp.wd 1 = (2,0,0,0) from rfl,if_neg (by rintro (h|h);exact absurd h (by decide);exact absurd h.1 (by decide))]
 dsimp only
 cases txP 2 r with
 | error e=>rfl
 | ok y =>
  obtain ⟨s,r1⟩:=y
  dsimp only
  rw [if_neg (by omega),if_neg (by omega),if_neg (by omega)]
  rfl
theorem en_int (room : Int) (r : List UInt8) : enP room (3 :: r) = if r.length < 4 then .error 30 else .ok (⟨3,⟨#[]⟩,IntKind.i32.wrap (Cp.numI (r.take 4)),0,0⟩,r.drop 4):=by
 unfold enP
 dsimp only
 rw [show ((3 : UInt8).toNat : Int) = 3 from rfl,show Cp.wd 3 = (0,4,0,0) from rfl,if_neg (by rintro (h|h);exact absurd h (by decide);exact absurd h.1 (by decide))]
 dsimp only
 rw [txP_0]
 dsimp only
 by_cases h : r.length < 4
 ·rw [if_pos h,if_pos h]
 ·rw [if_neg h,if_neg h,if_neg (by omega),if_neg (by omega)]
  rfl
theorem numI_wrap (l : List UInt8) : IntKind.i64.wrap (Cp.numI l) = Cp.numI l:=by
 rw [Cp.numI_U,IntWalk.i64_left]
 unfold Cp.W64 wrap64
 omega
theorem en_long (room : Int) (hroom : ¬ room < 2) (r : List UInt8) : enP room (5 :: r) = if r.length < 8 then .error 30 else .ok (⟨5,⟨#[]⟩,Cp.numI (r.take 8),0,0⟩,r.drop 8):=by
 unfold enP
 dsimp only
 rw [show ((5 : UInt8).toNat : Int) = 5 from rfl,show Cp.wd 5 = (0,8,0,0) from rfl,if_neg (by rintro (h|h);exact absurd h (by decide);exact hroom h.2)]
 dsimp only
 rw [txP_0]
 dsimp only
 by_cases h : r.length < 8
 ·rw [if_pos h,if_pos h]
 ·rw [if_neg h,if_neg h,if_neg (by omega),if_neg (by omega),show sgn (Cp.numI (r.take 8)) 8 = Cp.numI (r.take 8) from numI_wrap _]
  rfl
theorem en_class (room : Int) (r : List UInt8) : enP room (7 :: r) = if r.length < 2 then .error 30 else .ok (⟨7,⟨#[]⟩,0,Cp.numI (r.take 2),0⟩,r.drop 2):=by
 unfold enP
 dsimp only
 rw [show ((7 : UInt8).toNat : Int) = 7 from rfl,show Cp.wd 7 = (0,0,2,0) from rfl,if_neg (by rintro (h|h);exact absurd h (by decide);exact absurd h.1 (by decide))]
 dsimp only
 rw [txP_0]
 dsimp only
 rw [if_neg (by omega)]
 by_cases h : r.length < 2
 ·rw [List.drop_zero,if_pos h,if_pos h]
 ·rw [List.drop_zero,if_neg h,if_neg h,if_neg (by omega)]
  rfl
theorem en_two (room : Int) (c : UInt8) (r : List UInt8) (hc : (c.toNat : Int) = 9 ∨ (c.toNat : Int) = 10 ∨ (c.toNat : Int) = 12) : enP room (c :: r) = if r.length < 4 then .error 30 else .ok (⟨(c.toNat : Int),⟨#[]⟩,0,Cp.numI (r.take 2),Cp.numI ((r.drop 2).take 2)⟩,r.drop 4):=by
 unfold enP
 dsimp only
 have hk : Cp.knownB (c.toNat : Int) = true:=by unfold Cp.knownB;rw [decide_eq_true_iff];omega
 have hw : Cp.wd (c.toNat : Int) = (0,0,2,2):=by unfold Cp.wd;rw [if_neg (by omega),if_neg (by omega),if_neg (by omega),if_neg (by omega),if_pos (by omega)]
 rw [hw,if_neg (by rw [hk];rintro (h|h);exact absurd h (by decide);omega)]
 dsimp only
 rw [txP_0]
 dsimp only
 rw [if_neg (by omega),List.drop_zero]
 by_cases h2 : r.length < 2
 ·rw [if_pos h2,if_pos (by omega)]
 ·rw [if_neg h2]
  by_cases h : r.length < 4
  ·rw [if_pos h,if_pos (by rw [List.length_drop];omega)]
  ·rw [if_neg h,if_neg (by rw [List.length_drop];omega),List.drop_drop]
   rfl
def oneO (last : Bool) (bs : List UInt8) : Cp.C × Int × Int:=match enP (if last then 1 else 2) bs with
 | .error e=>(Cp.C0,0,e)
 | .ok (c,r)=>(c,(bs.length : Int) - (r.length : Int),0)
theorem sub_bs {lim : Nat} {w : World} {b o n cap : Nat} {bs : List UInt8} (h : Bs lim w (.slice (some ⟨b,o,none⟩) n cap) bs) {i j : Nat} (hij : i ≤ j) (hj : j ≤ bs.length) :
  Bs lim w (.slice (some ⟨b,o + i,none⟩) (j - i) (cap - i)) ((bs.drop i).take (j - i)):=by
 have hl:=h.1
 have hlen : ((bs.drop i).take (j - i)).length = j - i:=by rw [List.length_take,List.length_drop];omega
 refine ⟨by rw [hlen];omega,?_⟩
 by_cases h0 : j - i = 0
 ·refine .inl ⟨List.eq_nil_of_length_eq_zero (by omega),_,_,by rw [h0]⟩
 ·rcases h.2 with ⟨rfl,-⟩|⟨b',o',cap',hv,hcap,hb,hc⟩
  ·simp at hj;omega
  ·obtain ⟨h1,-,rfl⟩:=Value.slice.inj hv
   obtain ⟨rfl,rfl⟩ : b = b' ∧ o = o':=by simpa using h1
   refine .inr ⟨b,o + i,_,by rw [hlen],by rw [hlen];omega,hb,fun k c hk=>?_⟩
   rw [Nat.add_assoc]
   exact hc (i + k) c (drop_at (take_at hk))
end Go.Proofs.YtnojgiflgmnjlaaGreatDoor.L3
namespace Go.Proofs.YtnojgiflgmnjlaaGreatDoor.L3
open Go.RowKit
def OnPost (o : Cp.C × Int × Int) (w : World) (e : Ending) (w' : World) : Prop:=e = .returned (.tuple #[.agg (cC o.1),.int .i64 o.2.1,.int .i64 o.2.2]) ∧ Below w.heap.size w w'
theorem cf_get (v : Value) (w : World) : (callFunc 82 #[v]).run Tryz.prog w = .ok (.enter 82 #[v]) w:=by kernel_rfl
set_option maxHeartbeats 400000 in
theorem one_nil (last : Bool) (v : Value) (w : World) (hv : Bs w.heap.size w v []) : Calls Tryz.prog 83 #[v,.bool last] w (OnPost (Cp.C0,0,30) w):=by
 unfold OnPost cC Cp.C0
 obtain ⟨a,cap,rfl⟩:=hv.len
 clear hv
 go_enter Tryz.func83,Tryz.ntmps83
 go_wp2
 exact bodyPost_ret (v:=.tuple #[.agg #[.int .i64 0,.string ⟨#[]⟩,.int .i64 0,.int .i64 0,.int .i64 0],.int .i64 0,.int .i64 30]) (by simp [results,Tryz.results83,go_sem]) rfl ⟨rfl,BLw⟩
set_option maxHeartbeats 400000 in
theorem one_tag (last : Bool) (c : UInt8) (r : List UInt8) (v : Value) (w : World) (hv : Bs w.heap.size w v (c :: r)) (hk : Cp.knownB (c.toNat : Int) = false ∨ ((c.toNat : Int) = 5 ∧ last = true)) : Calls Tryz.prog 83 #[v,.bool last] w (OnPost (Cp.C0,0,31) w):=by
 unfold OnPost cC Cp.C0
 have HK0:=fun W=>known_any (c.toNat : Int) W
 obtain ⟨a,cap,rfl⟩:=hv.len
 obtain ⟨b,o,rfl,hb,hcell⟩:=hv.at (k:=0) (c:=c) rfl
 have hn0 : (((c :: r).length : Int) == 0) = false:=by rw [beq_eq_false_iff_ne,List.length_cons];omega
 have hn1 : (0 : Int) < ((c :: r).length : Int):=by rw [List.length_cons];omega
 obtain ⟨n,hn⟩ : ∃ n,n = (c :: r).length:=⟨_,rfl⟩
 rw [← hn] at hn0 hn1 ⊢
 have hcu:=Cp.u8_lt c
 rw [Nat.add_zero] at hcell
 clear hv hn
 cases hkk : Cp.knownB (c.toNat : Int) with
 | false =>
  rw [hkk] at HK0
  have HK:=hid HK0
  clear HK0 hkk hk
  go_enter Tryz.func83,Tryz.ntmps83
  go_wp2_with (go_at_call 139;refine (HK.out _).mono ?_;rintro e w1 ⟨rfl,rfl⟩)
  exact bodyPost_ret (v:=.tuple #[.agg #[.int .i64 0,.string ⟨#[]⟩,.int .i64 0,.int .i64 0,.int .i64 0],.int .i64 0,.int .i64 31]) (by simp [results,Tryz.results83,go_sem]) rfl ⟨rfl,BLw⟩
 | true =>
  rw [hkk] at HK0
  obtain ⟨h5,rfl⟩:=hk.resolve_left (by rw [hkk];simp)
  have hc5 : ((c.toNat : Int) == 5) = true:=by simpa using h5
  have HK:=hid HK0
  clear HK0 hkk hk h5
  go_enter Tryz.func83,Tryz.ntmps83
  go_wp2_with (go_at_call 139;refine (HK.out _).mono ?_;rintro e w1 ⟨rfl,rfl⟩)
  exact bodyPost_ret (v:=.tuple #[.agg #[.int .i64 0,.string ⟨#[]⟩,.int .i64 0,.int .i64 0,.int .i64 0],.int .i64 0,.int .i64 31]) (by simp [results,Tryz.results83,go_sem]) rfl ⟨rfl,BLw⟩
set_option maxHeartbeats 400000 in
theorem one_short (last : Bool) (c : UInt8) (r : List UInt8) (v : Value) (w : World) (hv : Bs w.heap.size w v (c :: r)) (hk : Cp.knownB (c.toNat : Int) = true) (hlast : (c.toNat : Int) = 5 → last = false) (hs : r.length < szOf (c.toNat : Int)) : Calls Tryz.prog 83 #[v,.bool last] w (OnPost (Cp.C0,0,30) w):=by
 unfold OnPost cC Cp.C0
 have HK0:=fun W=>known_any (c.toNat : Int) W
 rw [hk] at HK0
 have HK:=hid HK0
 have HZ0:=fun W=>size_any (c.toNat : Int) W
 have hz8 : szOf (c.toNat : Int) ≤ 8:=by unfold szOf;split;omega;split <;> omega
 obtain ⟨z,hz⟩ : ∃ z,z = szOf (c.toNat : Int):=⟨_,rfl⟩
 rw [← hz] at HZ0 hs hz8
 have HZ:=hid HZ0
 obtain ⟨a,cap,rfl⟩:=hv.len
 obtain ⟨b,o,rfl,hb,hcell⟩:=hv.at (k:=0) (c:=c) rfl
 have hn0 : (((c :: r).length : Int) == 0) = false:=by rw [beq_eq_false_iff_ne,List.length_cons];omega
 have hn1 : (0 : Int) < ((c :: r).length : Int):=by rw [List.length_cons];omega
 have hn2 : decide (((c :: r).length : Int) < 1 + (z : Int)) = true:=by rw [List.length_cons,decide_eq_true_iff];omega
 obtain ⟨n,hn⟩ : ∃ n,n = (c :: r).length:=⟨_,rfl⟩
 rw [← hn] at hn0 hn1 hn2 ⊢
 have hcu:=Cp.u8_lt c
 rw [Nat.add_zero] at hcell
 have hl5 : ((c.toNat : Int) == 5) = false ∨ (((c.toNat : Int) == 5) = true ∧ last = false):=by
  by_cases h : (c.toNat : Int) = 5
  ·exact .inr ⟨by simpa using h,hlast h⟩
  ·exact .inl (by simpa using h)
 clear hv hn HK0 HZ0 hk hlast hs hz
 rcases hl5 with hl5|⟨hl5,rfl⟩
 ·go_enter Tryz.func83,Tryz.ntmps83
  go_wp2_with (first|(go_at_call 139;refine (HK.out _).mono ?_;rintro e w1 ⟨rfl,rfl⟩)|(go_at_call 140;refine (HZ.out _).mono ?_;rintro e w1 ⟨rfl,rfl⟩))
  exact bodyPost_ret (v:=.tuple #[.agg #[.int .i64 0,.string ⟨#[]⟩,.int .i64 0,.int .i64 0,.int .i64 0],.int .i64 0,.int .i64 30]) (by simp [results,Tryz.results83,go_sem]) rfl ⟨rfl,BLw⟩
 ·go_enter Tryz.func83,Tryz.ntmps83
  go_wp2_with (first|(go_at_call 139;refine (HK.out _).mono ?_;rintro e w1 ⟨rfl,rfl⟩)|(go_at_call 140;refine (HZ.out _).mono ?_;rintro e w1 ⟨rfl,rfl⟩))
  exact bodyPost_ret (v:=.tuple #[.agg #[.int .i64 0,.string ⟨#[]⟩,.int .i64 0,.int .i64 0,.int .i64 0],.int .i64 0,.int .i64 30]) (by simp [results,Tryz.results83,go_sem]) rfl ⟨rfl,BLw⟩
set_option maxHeartbeats 400000 in
theorem one_int (last : Bool) (r : List UInt8) (v : Value) (w : World) (hv : Bs w.heap.size w v (3 :: r)) (hs : 4 ≤ r.length) : Calls Tryz.prog 83 #[v,.bool last] w (OnPost (⟨3,⟨#[]⟩,IntKind.i32.wrap (Cp.numI (r.take 4)),0,0⟩,5,0) w):=by
 unfold OnPost cC
 dsimp only
 have HK:=hid (fun W=>known_any 3 W)
 rw [show Cp.knownB 3 = true from rfl] at HK
 have HZ:=hid (fun W=>size_any 3 W)
 rw [show szOf 3 = 4 from rfl] at HZ
 obtain ⟨a,cap,rfl⟩:=hv.len
 obtain ⟨b,o,rfl,hb,hcell⟩:=hv.at (k:=0) (c:=3) rfl
 have hsub:=sub_bs hv (i:=1) (j:=5) (by omega) (by rw [List.length_cons];omega)
 rw [show ((3 :: r).drop 1).take (5 - 1) = r.take 4 from rfl,show 5 - 1 = 4 from rfl] at hsub
 have HG0:=fun W (h : Below w.heap.size w W)=>get_any w.heap.size (r.take 4) _ W (hsub.below h (Nat.le_refl _))
 have hcap : (3 :: r).length ≤ cap:=by
  rcases hv.2 with ⟨h,-⟩|⟨b',o',cap',h,hc,-⟩
  ·cases h
  ·obtain ⟨-,-,rfl⟩:=Value.slice.inj h;exact hc
 rw [List.length_cons] at hcap
 have hn0 : (((3 :: r).length : Int) == 0) = false:=by rw [beq_eq_false_iff_ne,List.length_cons];omega
 have hn1 : (0 : Int) < ((3 :: r).length : Int):=by rw [List.length_cons];omega
 have hn2 : decide (((3 :: r).length : Int) < 5) = false:=by rw [List.length_cons,decide_eq_false_iff_not];omega
 obtain ⟨n,hn⟩ : ∃ n,n = (3 :: r).length:=⟨_,rfl⟩
 obtain ⟨z,hz⟩ : ∃ z,z = Cp.numI (r.take 4):=⟨_,rfl⟩
 rw [← hn] at hn0 hn1 hn2 ⊢
 rw [← hz] at HG0 ⊢
 have hc1 : ¬ cap = 1:=by omega
 have hc5 : (5 : Int) ≤ (cap : Int):=by omega
 have HG:=hid HG0
 rw [Nat.add_zero] at hcell
 clear hv hn hz hsub HG0 hs hcap
 go_enter Tryz.func83,Tryz.ntmps83
 go_wp2_with (first|(go_at_call 139;refine (HK.out _).mono ?_;rintro e w1 ⟨rfl,rfl⟩)|(go_at_call 140;refine (HZ.out _).mono ?_;rintro e w1 ⟨rfl,rfl⟩)|(go_at_call 82;refine (HG.out _ BLw).mono ?_;rintro e w1 ⟨rfl,rfl⟩))
 have h32 : wrap64 (wrap32 z) = IntKind.i32.wrap z:=by rw [IntKind.wrap_i32];unfold wrap64 wrap32;omega
 exact bodyPost_ret (v:=.tuple #[.agg #[.int .i64 3,.string ⟨#[]⟩,.int .i64 (wrap64 (wrap32 z)),.int .i64 0,.int .i64 0],.int .i64 5,.int .i64 0]) (by simp [results,Tryz.results83,go_sem]) rfl ⟨by rw [h32],BLw⟩
set_option maxHeartbeats 400000 in
theorem one_long (r : List UInt8) (v : Value) (w : World) (hv : Bs w.heap.size w v (5 :: r)) (hs : 8 ≤ r.length) : Calls Tryz.prog 83 #[v,.bool false] w (OnPost (⟨5,⟨#[]⟩,Cp.numI (r.take 8),0,0⟩,9,0) w):=by
 unfold OnPost cC
 dsimp only
 have HK:=hid (fun W=>known_any 5 W)
 rw [show Cp.knownB 5 = true from rfl] at HK
 have HZ:=hid (fun W=>size_any 5 W)
 rw [show szOf 5 = 8 from rfl] at HZ
 obtain ⟨a,cap,rfl⟩:=hv.len
 obtain ⟨b,o,rfl,hb,hcell⟩:=hv.at (k:=0) (c:=5) rfl
 have hsub:=sub_bs hv (i:=1) (j:=9) (by omega) (by rw [List.length_cons];omega)
 rw [show ((5 :: r).drop 1).take (9 - 1) = r.take 8 from rfl,show 9 - 1 = 8 from rfl] at hsub
 have HG0:=fun W (h : Below w.heap.size w W)=>get_any w.heap.size (r.take 8) _ W (hsub.below h (Nat.le_refl _))
 have hcap : (5 :: r).length ≤ cap:=by
  rcases hv.2 with ⟨h,-⟩|⟨b',o',cap',h,hc,-⟩
  ·cases h
  ·obtain ⟨-,-,rfl⟩:=Value.slice.inj h;exact hc
 rw [List.length_cons] at hcap
 have hn0 : (((5 :: r).length : Int) == 0) = false:=by rw [beq_eq_false_iff_ne,List.length_cons];omega
 have hn1 : (0 : Int) < ((5 :: r).length : Int):=by rw [List.length_cons];omega
 have hn2 : decide (((5 :: r).length : Int) < 9) = false:=by rw [List.length_cons,decide_eq_false_iff_not];omega
 obtain ⟨n,hn⟩ : ∃ n,n = (5 :: r).length:=⟨_,rfl⟩
 obtain ⟨z,hz⟩ : ∃ z,z = Cp.numI (r.take 8):=⟨_,rfl⟩
 rw [← hn] at hn0 hn1 hn2 ⊢
 rw [← hz] at HG0 ⊢
 have hc1 : ¬ cap = 1:=by omega
 have hc5 : (9 : Int) ≤ (cap : Int):=by omega
 have HG:=hid HG0
 rw [Nat.add_zero] at hcell
 clear hv hn hz hsub HG0 hs hcap
 go_enter Tryz.func83,Tryz.ntmps83
 go_wp2_with (first|(go_at_call 139;refine (HK.out _).mono ?_;rintro e w1 ⟨rfl,rfl⟩)|(go_at_call 140;refine (HZ.out _).mono ?_;rintro e w1 ⟨rfl,rfl⟩)|(go_at_call 82;refine (HG.out _ BLw).mono ?_;rintro e w1 ⟨rfl,rfl⟩))
 exact bodyPost_ret (v:=.tuple #[.agg #[.int .i64 5,.string ⟨#[]⟩,.int .i64 z,.int .i64 0,.int .i64 0],.int .i64 9,.int .i64 0]) (by simp [results,Tryz.results83,go_sem]) rfl ⟨rfl,BLw⟩
set_option maxHeartbeats 400000 in
theorem one_class (last : Bool) (r : List UInt8) (v : Value) (w : World) (hv : Bs w.heap.size w v (7 :: r)) (hs : 2 ≤ r.length) : Calls Tryz.prog 83 #[v,.bool last] w (OnPost (⟨7,⟨#[]⟩,0,Cp.numI (r.take 2),0⟩,3,0) w):=by
 unfold OnPost cC
 dsimp only
 have HK:=hid (fun W=>known_any 7 W)
 rw [show Cp.knownB 7 = true from rfl] at HK
 have HZ:=hid (fun W=>size_any 7 W)
 rw [show szOf 7 = 2 from rfl] at HZ
 obtain ⟨a,cap,rfl⟩:=hv.len
 obtain ⟨b,o,rfl,hb,hcell⟩:=hv.at (k:=0) (c:=7) rfl
 have hsub:=sub_bs hv (i:=1) (j:=3) (by omega) (by rw [List.length_cons];omega)
 rw [show ((7 :: r).drop 1).take (3 - 1) = r.take 2 from rfl,show 3 - 1 = 2 from rfl] at hsub
 have HG0:=fun W (h : Below w.heap.size w W)=>get_any w.heap.size (r.take 2) _ W (hsub.below h (Nat.le_refl _))
 have hcap : (7 :: r).length ≤ cap:=by
  rcases hv.2 with ⟨h,-⟩|⟨b',o',cap',h,hc,-⟩
  ·cases h
  ·obtain ⟨-,-,rfl⟩:=Value.slice.inj h;exact hc
 rw [List.length_cons] at hcap
 have hn0 : (((7 :: r).length : Int) == 0) = false:=by rw [beq_eq_false_iff_ne,List.length_cons];omega
 have hn1 : (0 : Int) < ((7 :: r).length : Int):=by rw [List.length_cons];omega
 have hn2 : decide (((7 :: r).length : Int) < 3) = false:=by rw [List.length_cons,decide_eq_false_iff_not];omega
 obtain ⟨n,hn⟩ : ∃ n,n = (7 :: r).length:=⟨_,rfl⟩
 obtain ⟨z,hz⟩ : ∃ z,z = Cp.numI (r.take 2):=⟨_,rfl⟩
 rw [← hn] at hn0 hn1 hn2 ⊢
 rw [← hz] at HG0 ⊢
 have hc1 : ¬ cap = 1:=by omega
 have hc5 : (3 : Int) ≤ (cap : Int):=by omega
 have HG:=hid HG0
 rw [Nat.add_zero] at hcell
 clear hv hn hz hsub HG0 hs hcap
 go_enter Tryz.func83,Tryz.ntmps83
 go_wp2_with (first|(go_at_call 139;refine (HK.out _).mono ?_;rintro e w1 ⟨rfl,rfl⟩)|(go_at_call 140;refine (HZ.out _).mono ?_;rintro e w1 ⟨rfl,rfl⟩)|(go_at_call 82;refine (HG.out _ BLw).mono ?_;rintro e w1 ⟨rfl,rfl⟩))
 exact bodyPost_ret (v:=.tuple #[.agg #[.int .i64 7,.string ⟨#[]⟩,.int .i64 0,.int .i64 z,.int .i64 0],.int .i64 3,.int .i64 0]) (by simp [results,Tryz.results83,go_sem]) rfl ⟨rfl,BLw⟩
end Go.Proofs.YtnojgiflgmnjlaaGreatDoor.L3
namespace Go.Proofs.YtnojgiflgmnjlaaGreatDoor.L3
open Go.RowKit
set_option maxHeartbeats 400000 in
theorem one_two (last : Bool) (c : UInt8) (r : List UInt8) (v : Value) (w : World) (hv : Bs w.heap.size w v (c :: r)) (hs : 4 ≤ r.length) (hc : (c.toNat : Int) = 9 ∨ (c.toNat : Int) = 10 ∨ (c.toNat : Int) = 12) : Calls Tryz.prog 83 #[v,.bool last] w (OnPost (⟨(c.toNat : Int),⟨#[]⟩,0,Cp.numI (r.take 2),Cp.numI ((r.drop 2).take 2)⟩,5,0) w):=by
 unfold OnPost cC
 dsimp only
 have HK:=hid (fun W=>known_any (c.toNat : Int) W)
 rw [show Cp.knownB (c.toNat : Int) = true by unfold Cp.knownB;rw [decide_eq_true_iff];omega] at HK
 have HZ:=hid (fun W=>size_any (c.toNat : Int) W)
 rw [show szOf (c.toNat : Int) = 4 by unfold szOf;rw [if_neg (by omega),if_neg (by omega)]] at HZ
 have e1 : ((c.toNat : Int) == 1) = false:=by rw [beq_eq_false_iff_ne];omega
 have e3 : ((c.toNat : Int) == 3) = false:=by rw [beq_eq_false_iff_ne];omega
 have e5 : ((c.toNat : Int) == 5) = false:=by rw [beq_eq_false_iff_ne];omega
 have e7 : ((c.toNat : Int) == 7) = false:=by rw [beq_eq_false_iff_ne];omega
 have hcu:=Cp.u8_lt c
 obtain ⟨a,cap,rfl⟩:=hv.len
 obtain ⟨b,o,rfl,hb,hcell⟩:=hv.at (k:=0) (c:=c) rfl
 have hsub:=sub_bs hv (i:=1) (j:=3) (by omega) (by rw [List.length_cons];omega)
 rw [show ((c :: r).drop 1).take (3 - 1) = r.take 2 from rfl,show 3 - 1 = 2 from rfl] at hsub
 have hsu2:=sub_bs hv (i:=3) (j:=5) (by omega) (by rw [List.length_cons];omega)
 rw [show ((c :: r).drop 3).take (5 - 3) = (r.drop 2).take 2 from rfl,show 5 - 3 = 2 from rfl] at hsu2
 have HG0:=fun W (h : Below w.heap.size w W)=>get_any w.heap.size (r.take 2) _ W (hsub.below h (Nat.le_refl _))
 have HJ0:=fun W (h : Below w.heap.size w W)=>get_any w.heap.size ((r.drop 2).take 2) _ W (hsu2.below h (Nat.le_refl _))
 have hcap : (c :: r).length ≤ cap:=by
  rcases hv.2 with ⟨h,-⟩|⟨b',o',cap',h,hc,-⟩
  ·cases h
  ·obtain ⟨-,-,rfl⟩:=Value.slice.inj h;exact hc
 rw [List.length_cons] at hcap
 have hn0 : (((c :: r).length : Int) == 0) = false:=by rw [beq_eq_false_iff_ne,List.length_cons];omega
 have hn1 : (0 : Int) < ((c :: r).length : Int):=by rw [List.length_cons];omega
 have hn2 : decide (((c :: r).length : Int) < 5) = false:=by rw [List.length_cons,decide_eq_false_iff_not];omega
 obtain ⟨n,hn⟩ : ∃ n,n = (c :: r).length:=⟨_,rfl⟩
 obtain ⟨z,hz⟩ : ∃ z,z = Cp.numI (r.take 2):=⟨_,rfl⟩
 obtain ⟨y,hy⟩ : ∃ y,y = Cp.numI ((r.drop 2).take 2):=⟨_,rfl⟩
 rw [← hn] at hn0 hn1 hn2 ⊢
 rw [← hz] at HG0 ⊢
 rw [← hy] at HJ0 ⊢
 have hc3 : ¬ cap = 3:=by omega
 have hc3' : (3 : Int) ≤ (cap : Int):=by omega
 have HJ:=hid HJ0
 have hc1 : ¬ cap = 1:=by omega
 have hc5 : (5 : Int) ≤ (cap : Int):=by omega
 have HG:=hid HG0
 rw [Nat.add_zero] at hcell
 clear hv hn hz hy hsub hsu2 HG0 HJ0 hs hcap hc
 go_enter Tryz.func83,Tryz.ntmps83
 go_wp2_with (first|(go_at_call 139;refine (HK.out _).mono ?_;rintro e w1 ⟨rfl,rfl⟩)|(go_at_call 140;refine (HZ.out _).mono ?_;rintro e w1 ⟨rfl,rfl⟩))
 go_region_law (first
  | (refine Kit.step_call1 rfl 82 (.tmp 44) 22 rfl (.slice (some ⟨b,o + 1,none⟩) 2 (cap - 1)) rfl (cf_get _ _) _ (HG.out _ BLw) ?_;rintro e w1 ⟨rfl,rfl⟩;refine ⟨_,rfl,?_⟩)
  | (refine Kit.step_call1 rfl 82 (.tmp 47) 22 rfl (.slice (some ⟨b,o + 3,none⟩) 2 (cap - 3)) rfl (cf_get _ _) _ (HJ.out _ BLw) ?_;rintro e w1 ⟨rfl,rfl⟩;refine ⟨_,rfl,?_⟩))
 all_goals
  go_wp2
  exact bodyPost_ret (v:=.tuple #[.agg #[.int .i64 c.toNat,.string ⟨#[]⟩,.int .i64 0,.int .i64 z,.int .i64 y],.int .i64 5,.int .i64 0]) (by simp [results,Tryz.results83,go_sem]) rfl ⟨rfl,BLw⟩
def utO (r : List UInt8) : Cp.C × Int × Int:=match txP 2 r with
 | .error e=>(Cp.C0,0,e)
 | .ok (s,_)=>(⟨1,⟨s.toArray⟩,0,0,0⟩,3 + s.length,0)
set_option maxHeartbeats 400000 in
theorem one_utf (last : Bool) (r : List UInt8) (v : Value) (w : World) (hv : Bs w.heap.size w v (1 :: r)) (hs : 2 ≤ r.length) : Calls Tryz.prog 83 #[v,.bool last] w (OnPost (utO r) w):=by
 unfold OnPost utO
 have hx : txP 2 r = (if 255 < Cp.numI (r.take 2) then .error 32 else if ((r.drop 2).length : Int) < Cp.numI (r.take 2) then .error 30 else if Cp.plainB ((r.drop 2).take (Cp.numI (r.take 2)).toNat) = true then .ok ((r.drop 2).take (Cp.numI (r.take 2)).toNat,(r.drop 2).drop (Cp.numI (r.take 2)).toNat) else .error 32):=by unfold txP;rw [if_neg (by omega)]
 have hrange : 0 ≤ Cp.numI (r.take 2) ∧ Cp.numI (r.take 2) < 65536:=numI_2 (by rw [List.length_take];omega)
 have HK:=hid (fun W=>known_any 1 W)
 rw [show Cp.knownB 1 = true from rfl] at HK
 have HZ:=hid (fun W=>size_any 1 W)
 rw [show szOf 1 = 2 from rfl] at HZ
 have hbnd:=hv.1
 obtain ⟨a,cap,rfl⟩:=hv.len
 obtain ⟨b,o,rfl,hb,hcell⟩:=hv.at (k:=0) (c:=1) rfl
 have hsub:=sub_bs hv (i:=1) (j:=3) (by omega) (by rw [List.length_cons];omega)
 rw [show ((1 :: r).drop 1).take (3 - 1) = r.take 2 from rfl,show 3 - 1 = 2 from rfl] at hsub
 have HG0:=fun W (h : Below w.heap.size w W)=>get_any w.heap.size (r.take 2) _ W (hsub.below h (Nat.le_refl _))
 have hcap : (1 :: r).length ≤ cap:=by
  rcases hv.2 with ⟨h,-⟩|⟨b',o',cap',h,hc,-⟩
  ·cases h
  ·obtain ⟨-,-,rfl⟩:=Value.slice.inj h;exact hc
 have hsb3:=fun j (h1 : 3 ≤ j) (h2 : j ≤ (1 :: r).length)=>sub_bs hv (i:=3) (j:=j) h1 h2
 rw [List.length_cons] at hcap
 rw [List.length_cons] at hbnd
 have hn0 : (((1 :: r).length : Int) == 0) = false:=by rw [beq_eq_false_iff_ne,List.length_cons];omega
 have hn1 : (0 : Int) < ((1 :: r).length : Int):=by rw [List.length_cons];omega
 have hn2 : decide (((1 :: r).length : Int) < 3) = false:=by rw [List.length_cons,decide_eq_false_iff_not];omega
 obtain ⟨N,hN⟩:=Int.eq_ofNat_of_zero_le hrange.1
 rw [hN] at HG0 hx hrange
 rw [show ((N : Int)).toNat = N by omega] at hx
 have hc1 : ¬ cap = 1:=by omega
 have hc3 : (3 : Int) ≤ (cap : Int):=by omega
 have HG:=hid HG0
 rw [Nat.add_zero] at hcell
 rw [hx]
 by_cases h255 : 255 < (N : Int)
 ·rw [if_pos h255]
  have hd : decide (255 < (N : Int)) = true:=by simpa using h255
  unfold cC Cp.C0
  dsimp only
  obtain ⟨n,hn⟩ : ∃ n,n = (1 :: r).length:=⟨_,rfl⟩
  rw [← hn] at hn0 hn1 hn2 ⊢
  clear hv hn hN hsub hsb3 HG0 hs hcap hx h255 hbnd
  go_enter Tryz.func83,Tryz.ntmps83;go_wp2_with (first|(go_at_call 139;refine (HK.out _).mono ?_;rintro e w1 ⟨rfl,rfl⟩)|(go_at_call 140;refine (HZ.out _).mono ?_;rintro e w1 ⟨rfl,rfl⟩)|(go_at_call 82;refine (HG.out _ BLw).mono ?_;rintro e w1 ⟨rfl,rfl⟩)|(go_at_call 141;refine (HX.out _).mono ?_;rintro e w1 ⟨rfl,rfl⟩))
  exact bodyPost_ret (v:=.tuple #[.agg #[.int .i64 0,.string ⟨#[]⟩,.int .i64 0,.int .i64 0,.int .i64 0],.int .i64 0,.int .i64 32]) (by simp [results,Tryz.results83,go_sem]) rfl ⟨rfl,BLw⟩
 ·rw [if_neg h255]
  have hd : decide (255 < (N : Int)) = false:=by simp;omega
  by_cases hsh : ((r.drop 2).length : Int) < (N : Int)
  ·rw [if_pos hsh]
   rw [List.length_drop] at hsh
   have hd2 : decide (((1 :: r).length : Int) < 3 + (N : Int)) = true:=by rw [List.length_cons,decide_eq_true_iff];omega
   unfold cC Cp.C0
   dsimp only
   obtain ⟨n,hn⟩ : ∃ n,n = (1 :: r).length:=⟨_,rfl⟩
   rw [← hn] at hn0 hn1 hn2 hd2 ⊢
   clear hv hn hN hsub hsb3 HG0 hs hcap hx h255 hbnd hsh
   go_enter Tryz.func83,Tryz.ntmps83;go_wp2_with (first|(go_at_call 139;refine (HK.out _).mono ?_;rintro e w1 ⟨rfl,rfl⟩)|(go_at_call 140;refine (HZ.out _).mono ?_;rintro e w1 ⟨rfl,rfl⟩)|(go_at_call 82;refine (HG.out _ BLw).mono ?_;rintro e w1 ⟨rfl,rfl⟩)|(go_at_call 141;refine (HX.out _).mono ?_;rintro e w1 ⟨rfl,rfl⟩))
   exact bodyPost_ret (v:=.tuple #[.agg #[.int .i64 0,.string ⟨#[]⟩,.int .i64 0,.int .i64 0,.int .i64 0],.int .i64 0,.int .i64 30]) (by simp [results,Tryz.results83,go_sem]) rfl ⟨rfl,BLw⟩
  ·rw [if_neg hsh]
   rw [List.length_drop] at hsh
   have hd2 : decide (((1 :: r).length : Int) < 3 + (N : Int)) = false:=by rw [List.length_cons,decide_eq_false_iff_not];omega
   have hb3:=hsb3 (3 + N) (by omega) (by rw [List.length_cons];omega)
   rw [show ((1 :: r).drop 3) = r.drop 2 from rfl,show 3 + N - 3 = N by omega] at hb3
   obtain ⟨s,hss⟩ : ∃ s,s = (r.drop 2).take N:=⟨_,rfl⟩
   have hsl : s.length = N:=by rw [hss,List.length_take,List.length_drop];omega
   rw [← hss] at hb3 ⊢
   have hcv:=bs_conv (hb3.below (B:=w.heap.size) (w':=(w.alloc (.cells #[.int .i64 0,.string ⟨#[]⟩,.int .i64 0,.int .i64 0,.int .i64 0] 56)).alloc (.cells #[.int .i64 1,.string ⟨#[]⟩,.int .i64 0,.int .i64 0,.int .i64 0] 56)) BLw (Nat.le_refl _))
   have HX0:=fun W=>texts_any ⟨s.toArray⟩ W (by rw [str_size];omega)
   rw [str_size,show Cp.bl ⟨s.toArray⟩ = s from rfl,show decide (s.length ≤ 255) = true by rw [decide_eq_true_iff];omega,Bool.and_true] at HX0
   have t1 : IntKind.i64.wrap ((3 : Int) + N) = 3 + N:=IntWalk.i64_in _ (by omega)
   have t2 : (3 : Int) ≤ 3 + N:=by omega
   have t3 : ((3 : Int) + N).toNat = 3 + N:=by omega
   have t4 : (3 : Int) + N ≤ cap:=by omega
   have HSl:=hid hsl
   obtain ⟨st,hst⟩ : ∃ st : ByteArray,st = ⟨s.toArray⟩:=⟨_,rfl⟩
   rw [← hst] at HX0 hcv
   have HSt:=hid hst
   have hcv2 : (¬ cap = 3) ∨ (cap = 3 ∧ N = 0 ∧ (convert 22 9 (.slice (some ⟨b,o,none⟩) 0 0)).run Tryz.prog ((w.alloc (.cells #[.int .i64 0,.string ⟨#[]⟩,.int .i64 0,.int .i64 0,.int .i64 0] 56)).alloc (.cells #[.int .i64 1,.string ⟨#[]⟩,.int .i64 0,.int .i64 0,.int .i64 0] 56)) = .ok (.string st) ((w.alloc (.cells #[.int .i64 0,.string ⟨#[]⟩,.int .i64 0,.int .i64 0,.int .i64 0] 56)).alloc (.cells #[.int .i64 1,.string ⟨#[]⟩,.int .i64 0,.int .i64 0,.int .i64 0] 56))):=by
    by_cases h3 : cap = 3
    ·have hN0 : N = 0:=by omega
     have hs0 : s = []:=List.eq_nil_of_length_eq_zero (by omega)
     refine .inr ⟨h3,hN0,?_⟩
     rw [hst,hs0]
     exact bs_conv (lim:=w.heap.size) (l:=[]) ⟨by simp,.inl ⟨rfl,_,_,rfl⟩⟩
    ·exact .inl h3
   obtain ⟨n,hn⟩ : ∃ n,n = (1 :: r).length:=⟨_,rfl⟩
   rw [← hn] at hn0 hn1 hn2 hd2 ⊢
   cases hp : Cp.plainB s with
   | true =>
    rw [if_pos rfl]
    rw [hp] at HX0
    have HX:=hid HX0
    dsimp only
    unfold cC
    dsimp only
    clear hv hn hN hsub hsb3 HG0 hs hcap hx h255 hbnd hsh hb3 hss hsl HX0 hp hst
    rcases hcv2 with hcap3|⟨rfl,rfl,hcv0⟩
    ·go_enter Tryz.func83,Tryz.ntmps83;go_wp2_with (first|(go_at_call 139;refine (HK.out _).mono ?_;rintro e w1 ⟨rfl,rfl⟩)|(go_at_call 140;refine (HZ.out _).mono ?_;rintro e w1 ⟨rfl,rfl⟩)|(go_at_call 82;refine (HG.out _ BLw).mono ?_;rintro e w1 ⟨rfl,rfl⟩)|(go_at_call 141;refine (HX.out _).mono ?_;rintro e w1 ⟨rfl,rfl⟩))
     exact bodyPost_ret (v:=.tuple #[.agg #[.int .i64 1,.string st,.int .i64 0,.int .i64 0,.int .i64 0],.int .i64 (3 + N),.int .i64 0]) (by simp [results,Tryz.results83,go_sem]) rfl ⟨by rw [← HSt.out,HSl.out],BLw⟩
    ·go_enter Tryz.func83,Tryz.ntmps83;go_wp2_with (first|(go_at_call 139;refine (HK.out _).mono ?_;rintro e w1 ⟨rfl,rfl⟩)|(go_at_call 140;refine (HZ.out _).mono ?_;rintro e w1 ⟨rfl,rfl⟩)|(go_at_call 82;refine (HG.out _ BLw).mono ?_;rintro e w1 ⟨rfl,rfl⟩)|(go_at_call 141;refine (HX.out _).mono ?_;rintro e w1 ⟨rfl,rfl⟩))
     exact bodyPost_ret (v:=.tuple #[.agg #[.int .i64 1,.string st,.int .i64 0,.int .i64 0,.int .i64 0],.int .i64 3,.int .i64 0]) (by simp [results,Tryz.results83,go_sem]) rfl ⟨by rw [← HSt.out,HSl.out];rfl,BLw⟩
   | false =>
    rw [if_neg (by simp)]
    rw [hp] at HX0
    have HX:=hid HX0
    dsimp only
    unfold cC Cp.C0
    dsimp only
    clear hv hn hN hsub hsb3 HG0 hs hcap hx h255 hbnd hsh hb3 hss hsl HX0 hp hst
    rcases hcv2 with hcap3|⟨rfl,rfl,hcv0⟩
    ·go_enter Tryz.func83,Tryz.ntmps83;go_wp2_with (first|(go_at_call 139;refine (HK.out _).mono ?_;rintro e w1 ⟨rfl,rfl⟩)|(go_at_call 140;refine (HZ.out _).mono ?_;rintro e w1 ⟨rfl,rfl⟩)|(go_at_call 82;refine (HG.out _ BLw).mono ?_;rintro e w1 ⟨rfl,rfl⟩)|(go_at_call 141;refine (HX.out _).mono ?_;rintro e w1 ⟨rfl,rfl⟩))
     exact bodyPost_ret (v:=.tuple #[.agg #[.int .i64 0,.string ⟨#[]⟩,.int .i64 0,.int .i64 0,.int .i64 0],.int .i64 0,.int .i64 32]) (by simp [results,Tryz.results83,go_sem]) rfl ⟨rfl,BLw⟩
    ·go_enter Tryz.func83,Tryz.ntmps83;go_wp2_with (first|(go_at_call 139;refine (HK.out _).mono ?_;rintro e w1 ⟨rfl,rfl⟩)|(go_at_call 140;refine (HZ.out _).mono ?_;rintro e w1 ⟨rfl,rfl⟩)|(go_at_call 82;refine (HG.out _ BLw).mono ?_;rintro e w1 ⟨rfl,rfl⟩)|(go_at_call 141;refine (HX.out _).mono ?_;rintro e w1 ⟨rfl,rfl⟩))
     exact bodyPost_ret (v:=.tuple #[.agg #[.int .i64 0,.string ⟨#[]⟩,.int .i64 0,.int .i64 0,.int .i64 0],.int .i64 0,.int .i64 32]) (by simp [results,Tryz.results83,go_sem]) rfl ⟨rfl,BLw⟩
theorem txP_len {k : Nat} {bs s r : List UInt8} (h : txP k bs = .ok (s,r)) : k + s.length + r.length = bs.length:=by
 unfold txP at h
 repeat' split at h
 all_goals cases h
 simp only [List.length_take,List.length_drop]
 omega
end Go.Proofs.YtnojgiflgmnjlaaGreatDoor.L3
namespace Go.Proofs.YtnojgiflgmnjlaaGreatDoor.L3
open Go.RowKit
theorem enP_room {a b : Int} (h : a < 2 ↔ b < 2) (r : List UInt8) : enP a r = enP b r:=by
 cases r with
 | nil=>rfl
 | cons c r =>
  unfold enP
  dsimp only
  have e : (Cp.knownB (c.toNat : Int) = false ∨ ((c.toNat : Int) = 5 ∧ a < 2)) ↔ (Cp.knownB (c.toNat : Int) = false ∨ ((c.toNat : Int) = 5 ∧ b < 2)):=by rw [h]
  by_cases hc : Cp.knownB (c.toNat : Int) = false ∨ ((c.toNat : Int) = 5 ∧ a < 2)
  ·rw [if_pos hc,if_pos (e.1 hc)]
  ·rw [if_neg hc,if_neg (fun x=>hc (e.2 x))]
theorem suf_cons (x : UInt8) (l : List UInt8) (m : Nat) : ∃ j,1 ≤ j ∧ j ≤ (x :: l).length ∧ l.drop m = (x :: l).drop j:=by
 by_cases hm : m ≤ l.length
 ·exact ⟨m + 1,by omega,by rw [List.length_cons];omega,by rw [List.drop_succ_cons]⟩
 ·exact ⟨l.length + 1,by omega,by rw [List.length_cons];omega,by rw [List.drop_succ_cons,List.drop_eq_nil_of_le (by omega),List.drop_length]⟩
theorem txP_suf {k : Nat} {bs s r : List UInt8} (h : txP k bs = .ok (s,r)) : ∃ j,r = bs.drop j:=by
 unfold txP at h
 repeat' split at h
 all_goals cases h
 exact ⟨_,List.drop_drop⟩
theorem enP_suf {room : Int} {l r : List UInt8} {c : Cp.C} (h : enP room l = .ok (c,r)) : ∃ j,1 ≤ j ∧ j ≤ l.length ∧ r = l.drop j:=by
 cases l with
 | nil=>cases h
 | cons x l =>
  unfold enP at h
  dsimp only at h
  split at h
  ·cases h
  ·split at h
   ·cases h
   ·rename_i s r1 ht
    obtain ⟨j,hj⟩:=txP_suf ht
    repeat' split at h
    all_goals cases h
    rw [hj,List.drop_drop,List.drop_drop,List.drop_drop]
    exact suf_cons x l _
theorem u8_is1 {c : UInt8} (h : (c.toNat : Int) = 1) : c = 1:=UInt8.toNat_inj.1 (by rw [show (1 : UInt8).toNat = 1 from rfl];omega)
theorem u8_is3 {c : UInt8} (h : (c.toNat : Int) = 3) : c = 3:=UInt8.toNat_inj.1 (by rw [show (3 : UInt8).toNat = 3 from rfl];omega)
theorem u8_is5 {c : UInt8} (h : (c.toNat : Int) = 5) : c = 5:=UInt8.toNat_inj.1 (by rw [show (5 : UInt8).toNat = 5 from rfl];omega)
theorem u8_is7 {c : UInt8} (h : (c.toNat : Int) = 7) : c = 7:=UInt8.toNat_inj.1 (by rw [show (7 : UInt8).toNat = 7 from rfl];omega)
theorem one_any (last : Bool) (bs : List UInt8) (v : Value) (w : World) (hv : Bs w.heap.size w v bs) : Calls Tryz.prog 83 #[v,.bool last] w (OnPost (oneO last bs) w):=by
 have hroom : ((if last then 1 else 2 : Int) < 2) ↔ last = true:=by cases last <;> simp
 unfold oneO
 cases bs with
 | nil=>exact one_nil last v w hv
 | cons c r =>
  by_cases hbad : Cp.knownB (c.toNat : Int) = false ∨ ((c.toNat : Int) = 5 ∧ last = true)
  ·have e : enP (if last then 1 else 2) (c :: r) = .error 31:=by
    unfold enP
    dsimp only
    rw [if_pos (by rw [hroom];exact hbad)]
   rw [e]
   exact one_tag last c r v w hv hbad
  ·have hk : Cp.knownB (c.toNat : Int) = true:=by
    cases h : Cp.knownB (c.toNat : Int) with
    | true=>rfl
    | false=>exact absurd (.inl h) hbad
   have hlast : (c.toNat : Int) = 5 → last = false:=fun h=>by
    cases hl : last with
    | false=>rfl
    | true=>exact absurd (.inr ⟨h,hl⟩) hbad
   have hks:=hk
   unfold Cp.knownB at hks
   rw [decide_eq_true_iff] at hks
   by_cases hs : r.length < szOf (c.toNat : Int)
   ·have e : enP (if last then 1 else 2) (c :: r) = .error 30:=by
     rcases hks with h|h|h|h|h
     ·obtain rfl:=u8_is1 h
      rw [en_utf]
      have : txP 2 r = .error 30:=by unfold txP;rw [if_pos (show r.length < 2 from hs)]
      rw [this]
     ·obtain rfl:=u8_is3 h
      rw [en_int,if_pos (show r.length < 4 from hs)]
     ·have hl:=hlast h
      obtain rfl:=u8_is5 h
      rw [en_long _ (by rw [hroom,hl];simp),if_pos (show r.length < 8 from hs)]
     ·obtain rfl:=u8_is7 h
      rw [en_class,if_pos (show r.length < 2 from hs)]
     ·rw [en_two _ _ _ h,if_pos (by unfold szOf at hs;rw [if_neg (by omega),if_neg (by omega)] at hs;exact hs)]
    rw [e]
    exact one_short last c r v w hv hk hlast hs
   ·rcases hks with h|h|h|h|h
    ·obtain rfl:=u8_is1 h
     have hs2 : 2 ≤ r.length:=by have : szOf (((1 : UInt8).toNat : Nat) : Int) = 2:=rfl;omega
     have:=one_utf last r v w hv hs2
     rw [en_utf]
     unfold utO at this
     cases hx : txP 2 r with
     | error e=>rw [hx] at this;exact this
     | ok y =>
      obtain ⟨s,r1⟩:=y
      rw [hx] at this
      have hl:=txP_len hx
      dsimp only at this ⊢
      rw [List.length_cons,show (((r.length + 1 : Nat) : Int) - (r1.length : Int)) = 3 + s.length by omega]
      exact this
    ·obtain rfl:=u8_is3 h
     have hs2 : 4 ≤ r.length:=by have : szOf (((3 : UInt8).toNat : Nat) : Int) = 4:=rfl;omega
     have:=one_int last r v w hv hs2
     rw [en_int,if_neg (by omega)]
     dsimp only
     rw [List.length_cons,List.length_drop,show (((r.length + 1 : Nat) : Int) - ((r.length - 4 : Nat) : Int)) = 5 by omega]
     exact this
    ·have hl:=hlast h
     subst hl
     obtain rfl:=u8_is5 h
     have hs2 : 8 ≤ r.length:=by have : szOf (((5 : UInt8).toNat : Nat) : Int) = 8:=rfl;omega
     have:=one_long r v w hv hs2
     rw [en_long _ (by simp),if_neg (by omega)]
     dsimp only
     rw [List.length_cons,List.length_drop,show (((r.length + 1 : Nat) : Int) - ((r.length - 8 : Nat) : Int)) = 9 by omega]
     exact this
    ·obtain rfl:=u8_is7 h
     have hs2 : 2 ≤ r.length:=by have : szOf (((7 : UInt8).toNat : Nat) : Int) = 2:=rfl;omega
     have:=one_class last r v w hv hs2
     rw [en_class,if_neg (by omega)]
     dsimp only
     rw [List.length_cons,List.length_drop,show (((r.length + 1 : Nat) : Int) - ((r.length - 2 : Nat) : Int)) = 3 by omega]
     exact this
    ·have hs2 : 4 ≤ r.length:=by
      have : szOf (c.toNat : Int) = 4:=by unfold szOf;rw [if_neg (by omega),if_neg (by omega)]
      omega
     have:=one_two last c r v w hv hs2 h
     rw [en_two _ _ _ h,if_neg (by omega)]
     dsimp only
     rw [List.length_cons,List.length_drop,show (((r.length + 1 : Nat) : Int) - ((r.length - 4 : Nat) : Int)) = 5 by omega]
     exact this
end Go.Proofs.YtnojgiflgmnjlaaGreatDoor.L3
namespace Go.Proofs.YtnojgiflgmnjlaaGreatDoor.L3
open Go.RowKit
theorem tk_short {bs : List UInt8} (h : bs.length < 2) : tkOut bs = ([],0,30):=by
 unfold tkOut plP;rw [if_pos h]
theorem tk_long {bs : List UInt8} (h : ¬ bs.length < 2) (h2 : 4096 < Cp.numI (bs.take 2)) : tkOut bs = ([],0,3):=by
 unfold tkOut plP;rw [if_neg h,if_pos h2]
theorem tk_none {bs : List UInt8} (h : ¬ bs.length < 2) (h2 : Cp.numI (bs.take 2) = 0) : tkOut bs = ([],2,0):=by
 unfold tkOut plP
 rw [if_neg h,h2,if_neg (by decide),if_pos rfl]
 dsimp only
 rw [List.length_drop,show ((bs.length : Int) - ((bs.length - 2 : Nat) : Int)) = 2 by omega]
def tkO (n : Nat) (x : Except Int (List Cp.C × List UInt8)) : List Cp.C × Int × Int:=match x with
 | .error er=>([],0,er)
 | .ok (l,r)=>(l,(n : Int) - (r.length : Int),0)
theorem tk_loop {bs : List UInt8} {n : Nat} (h : ¬ bs.length < 2) (hn : Cp.numI (bs.take 2) = n) (h1 : 1 ≤ n) (h2 : n ≤ 4096) : tkOut bs = tkO bs.length (plGo n n [Cp.C0] (bs.drop 2)):=by
 unfold tkOut plP
 rw [if_neg h,hn,if_neg (by omega),if_neg (by omega),show ((n : Int)).toNat = n by omega]
 rfl
set_option maxHeartbeats 400000 in
theorem rtake_small (bs : List UInt8) (v : Value) (w : World) (hv : Bs w.heap.size w v bs) (hn : bs.length < 2 ∨ 4096 < Cp.numI (bs.take 2) ∨ Cp.numI (bs.take 2) = 0) :
  Calls Tryz.prog 39 #[v] w (TkPost (tkOut bs) w):=by
 unfold TkPost
 have hbl:=hv.1
 by_cases h2 : bs.length < 2
 ·rw [tk_short h2]
  obtain ⟨a,cap,rfl⟩:=hv.len
  have hd : decide ((bs.length : Int) < 2) = true:=by simp;omega
  clear hv hn h2
  go_enter Tryz.func39,Tryz.ntmps39
  go_wp2
  exact bodyPost_ret (v:=.tuple #[.slice none 0 0,.int .i64 0,.int .i64 30]) (by simp [results,Tryz.results39,go_sem]) rfl ⟨_,rfl,nilC _ _,BLw⟩
 ·obtain ⟨a,cap,rfl⟩:=hv.len
  obtain ⟨c,hc⟩ : ∃ c,bs[0]? = some c:=⟨bs[0]'(by omega),List.getElem?_eq_getElem _⟩
  obtain ⟨b,o,rfl,hb,hcell⟩:=hv.at hc
  have hsub:=sub_bs hv (i:=0) (j:=2) (by omega) (by omega)
  simp only [Nat.add_zero,Nat.sub_zero,List.drop_zero] at hsub
  have HG:=hid (fun W (h : Below w.heap.size w W)=>get_any w.heap.size (bs.take 2) _ W (hsub.below h (Nat.le_refl _)))
  have hcap : bs.length ≤ cap:=by
   rcases hv.2 with ⟨rfl,-⟩|⟨b',o',cap',h,hc,-⟩
   ·simp at h2
   ·obtain ⟨-,-,rfl⟩:=Value.slice.inj h;exact hc
  have hd : decide ((bs.length : Int) < 2) = false:=by simp;omega
  have hc2 : (2 : Int) ≤ (cap : Int):=by omega
  have hn2:=hn.resolve_left h2
  by_cases hbig : 4096 < Cp.numI (bs.take 2)
  ·rw [tk_long h2 hbig]
   obtain ⟨z,hz⟩ : ∃ z,z = Cp.numI (bs.take 2):=⟨_,rfl⟩
   rw [← hz] at HG hbig
   have hd2 : decide (4096 < z) = true:=by simpa using hbig
   clear hv hn hn2 h2 hc hcell hsub hcap hz hbig
   go_enter Tryz.func39,Tryz.ntmps39
   go_wp2_with (go_at_call 82;refine (HG.out _ BLw).mono ?_;rintro e w1 ⟨rfl,rfl⟩)
   exact bodyPost_ret (v:=.tuple #[.slice none 0 0,.int .i64 0,.int .i64 3]) (by simp [results,Tryz.results39,go_sem]) rfl ⟨_,rfl,nilC _ _,BLw⟩
  ·have h0:=hn2.resolve_left hbig
   rw [tk_none h2 h0]
   rw [h0] at HG
   clear hv hn hn2 h2 hc hcell hsub hcap hbig h0
   go_enter Tryz.func39,Tryz.ntmps39
   go_wp2_with (go_at_call 82;refine (HG.out _ BLw).mono ?_;rintro e w1 ⟨rfl,rfl⟩)
   exact bodyPost_ret (v:=.tuple #[.slice none 0 0,.int .i64 2,.int .i64 0]) (by simp [results,Tryz.results39,go_sem]) rfl ⟨_,rfl,nilC _ _,BLw⟩
set_option maxHeartbeats 400000 in
theorem rtake_loop (bs : List UInt8) (n : Nat) (v : Value) (w : World) (hv : Bs w.heap.size w v bs) (h2 : ¬ bs.length < 2) (hn : Cp.numI (bs.take 2) = n) (h1 : 1 ≤ n) (hn2 : n ≤ 4096) :
  Calls Tryz.prog 39 #[v] w (TkPost (tkO bs.length (plGo n n [Cp.C0] (bs.drop 2))) w):=by
 unfold TkPost
 have hbl:=hv.1
 obtain ⟨a,cap,rfl⟩:=hv.len
 obtain ⟨c,hc⟩ : ∃ c,bs[0]? = some c:=⟨bs[0]'(by omega),List.getElem?_eq_getElem _⟩
 obtain ⟨b,o,rfl,hb,hcell⟩:=hv.at hc
 have hsub:=sub_bs hv (i:=0) (j:=2) (by omega) (by omega)
 simp only [Nat.add_zero,Nat.sub_zero,List.drop_zero] at hsub
 have HG0:=fun W (h : Below w.heap.size w W)=>get_any w.heap.size (bs.take 2) _ W (hsub.below h (Nat.le_refl _))
 rw [hn] at HG0
 have HG:=hid HG0
 have hcap : bs.length ≤ cap:=by
  rcases hv.2 with ⟨rfl,-⟩|⟨b',o',cap',h,hc,-⟩
  ·simp at h2
  ·obtain ⟨-,-,rfl⟩:=Value.slice.inj h;exact hc
 have HB:=hid (fun (p : Nat) (h : p ≤ bs.length)=>sub_bs hv (i:=p) (j:=bs.length) h (Nat.le_refl _))
 have hd : decide ((bs.length : Int) < 2) = false:=by simp;omega
 have hd2 : decide (4096 < (n : Int)) = false:=by simp;omega
 have hd3 : ((n : Int) == 0) = false:=by rw [beq_eq_false_iff_ne];omega
 have hc2 : (2 : Int) ≤ (cap : Int):=by omega
 have hw1 : IntKind.i64.wrap ((n : Int) - 1) = (n : Int) - 1:=IntWalk.i64_in _ (by omega)
 obtain ⟨x,hx⟩ : ∃ x,x = plGo n n [Cp.C0] (bs.drop 2):=⟨_,rfl⟩
 rw [← hx]
 have HX:=hid hx
 obtain ⟨i0,hi,hz0,hz1,hz2⟩:=info_parts infoC
 have HL2:=hid h2
 clear hv hn hc hcell hsub HG0 hx h2
 go_enter Tryz.func39,Tryz.ntmps39
 go_wp2_with (go_at_call 82;refine (HG.out _ BLw).mono ?_;rintro e w1 ⟨rfl,rfl⟩)
 go_loopw [6,7] (fun i u wr=>∃ (xs : List Cp.C) (p f : Nat),i = .int .i64 p ∧ p ≤ bs.length ∧ OwnC wr w.heap.size u xs ∧ Below w.heap.size w wr ∧ n - xs.length < f ∧ xs.length ≤ n + 1 ∧ Hid (x = plGo f n xs (bs.drop p))) (fun _ u _=>n - lenV u)
 case atStart =>
  refine ⟨[Cp.C0],2,n,rfl,by have:=HL2.out;omega,own_newC w w.heap.size (Nat.le_refl _),BLw,?_,?_,HX.out⟩
  ·rw [List.length_singleton];omega
  ·rw [List.length_singleton];omega
 case round =>
  obtain ⟨xs,p,f,rfl,hp,hown,hblw,hf,hxl,hxe⟩:=hrel
  obtain ⟨f,rfl⟩ : ∃ f',f = f' + 1:=⟨f - 1,by omega⟩
  obtain ⟨sa,sc,rfl⟩:=own_form hown
  have hbz:=hblw.size
  by_cases hlt : xs.length < n
  ·have hlti : (xs.length : Int) < (n : Int):=by omega
   have hp0 : (0 : Int) ≤ p:=by omega
   have hp1 : (p : Int) ≤ bs.length:=by omega
   have hp2 : (p : Int) ≤ cap:=by omega
   have hxe1:=hxe.out
   unfold plGo at hxe1
   rw [if_pos hlt] at hxe1
   obtain ⟨last,hla⟩ : ∃ last : Bool,((xs.length : Int) == (n : Int) - 1) = last:=⟨_,rfl⟩
   have hroom : ((n : Int) - (xs.length : Int) < 2) ↔ ((if last then 1 else 2 : Int) < 2):=by
    rw [← hla]
    by_cases h : (xs.length : Int) = (n : Int) - 1
    ·rw [beq_iff_eq.2 h];simp;omega
    ·rw [beq_eq_false_iff_ne.2 h];simp;omega
   rw [enP_room hroom] at hxe1
   have HOn0:=fun W (h : Below wr.heap.size wr W) (u : Value) (hu : Bs w.heap.size W u (bs.drop p))=>one_any last (bs.drop p) u W (hu.mono (by have:=h.size;omega))
   unfold OnPost oneO at HOn0
   have hsl : (cap = p ∧ ∀ W : World,Bs w.heap.size W (.slice (some ⟨b,o,none⟩) (bs.length - p) 0) (bs.drop p)) ∨ (¬ cap = p):=by
    by_cases h : cap = p
    ·refine .inl ⟨h,fun W=>⟨by rw [List.length_drop];omega,.inl ⟨List.drop_eq_nil_of_le (by omega),_,_,by rw [show bs.length - p = 0 by omega]⟩⟩⟩
    ·exact .inr h
   have hsl2 : Bs w.heap.size w (.slice (some ⟨b,o + p,none⟩) (bs.length - p) (cap - p)) (bs.drop p):=by
    have:=HB.out p hp
    rwa [List.take_of_length_le (by rw [List.length_drop];exact Nat.le_refl _)] at this
   cases he : enP (if last then 1 else 2) (bs.drop p) with
   | error er =>
    have hne:=enP_err he
    rw [he] at HOn0 hxe1
    unfold cC Cp.C0 at HOn0
    dsimp only at HOn0 hxe1
    have HOn:=hid HOn0
    have HXE:=hid hxe1
    have hd5 : (er != 0) = true:=by simpa using hne
    rcases hsl with ⟨hcp,hsl⟩|hcp
    ·obtain rfl : p = bs.length:=by omega
     subst hcp
     have HS2:=hid (fun W (_ : Below w.heap.size w W)=>show Bs w.heap.size W (.slice (some ⟨b,o,none⟩) 0 0) (bs.drop bs.length) from ⟨by rw [List.length_drop];omega,.inl ⟨List.drop_eq_nil_of_le (Nat.le_refl _),_,_,rfl⟩⟩)
     clear HOn0 hxe1 he hsl2 hne hroom hxe hsl
     go_wp2_with (go_at_call 83;(with_reducible refine (HOn.out _ BLw _ (HS2.out _ hblw)).mono ?_);rintro e w2 ⟨rfl,hb2⟩;have hzz:=hb2.size)
     exact bodyPost_ret (v:=.tuple #[.slice none 0 0,.int .i64 0,.int .i64 er]) (by simp [results,Tryz.results39,go_sem]) rfl ⟨_,by rw [HXE.out];rfl,by rw [HXE.out];exact nilC _ _,by (have h9:=belows hblw hb2 hbz);exact BLw⟩
    ·have HS2:=hid (fun W (h : Below w.heap.size w W)=>hsl2.below h (Nat.le_refl _))
     clear HOn0 hxe1 he hsl2 hne hroom hxe
     go_wp2_with (go_at_call 83;(with_reducible refine (HOn.out _ BLw _ (HS2.out _ hblw)).mono ?_);rintro e w2 ⟨rfl,hb2⟩;have hzz:=hb2.size)
     exact bodyPost_ret (v:=.tuple #[.slice none 0 0,.int .i64 0,.int .i64 er]) (by simp [results,Tryz.results39,go_sem]) rfl ⟨_,by rw [HXE.out];rfl,by rw [HXE.out];exact nilC _ _,by (have h9:=belows hblw hb2 hbz);exact BLw⟩
   | ok y =>
    obtain ⟨c,r'⟩:=y
    obtain ⟨j,hj1,hj2,rfl⟩:=enP_suf he
    rw [he] at HOn0 hxe1
    unfold cC at HOn0
    dsimp only at HOn0 hxe1
    rw [List.length_drop] at hj2
    rw [List.length_drop,List.length_drop,List.length_drop,show (((bs.length - p : Nat) : Int) - ((bs.length - p - j : Nat) : Int)) = (j : Int) by omega] at HOn0
    rw [List.drop_drop] at hxe1
    have HOn:=hid HOn0
    have hwj : IntKind.i64.wrap ((p : Int) + j) = (p : Int) + j:=IntWalk.i64_in _ (by omega)
    unfold appE at hxe1
    rcases hsl with ⟨rfl,hsl⟩|hcp
    ·exfalso;omega
    ·have HS2:=hid (fun W (h : Below w.heap.size w W)=>hsl2.below h (Nat.le_refl _))
     by_cases h5 : c.t = 5
     ·have hd5 : (c.t == 5) = true:=by simpa using h5
      rw [if_pos h5] at hxe1
      have HXE:=hid hxe1
      clear HOn0 hxe1 he hsl2 hroom hxe h5
      go_wp2_with (first|(at_builtin;have _g:=ho3;refine wpList_append_own _ rfl (.tmp 54) (.tmp 56) 23 rfl w.heap.size 56 i0 _ 5 48 Tryz.underlying23 hi hz0 hz1 hz2 rfl (by decide) v3 _ _ rfl (World.ownsRow.alloc ho3 _) ⟨w3.heap.size,0,none⟩ 1 1 (cL Cp.C0) rfl rfl (news_c w3 Cp.C0) (ones_c _) (by unfold maxLen;rw [List.length_append];simp only [List.length_cons,List.length_nil];omega) (by rw [List.length_append];simp only [List.length_cons,List.length_nil];omega) (by simp only [World.size_alloc];omega) ?_;intro v4 w4 ho4' hg4 _;have ho4:=OwnC.snoc ho4';have hb4 : Below w.heap.size w w4:=Kit.below_grown (hb3.alloc hz3 (.cells #[.int .i64 0,.string ⟨#[]⟩,.int .i64 0,.int .i64 0,.int .i64 0] 56)) hg4 (by simp only [World.size_alloc];omega) (fun k e=>Kit.own_base ho3 k e))|(at_builtin;refine wpList_append_own _ rfl (.tmp 47) (.tmp 49) 23 rfl w.heap.size 56 i0 _ 5 48 Tryz.underlying23 hi hz0 hz1 hz2 rfl (by decide) _ _ _ rfl (World.ownsRow.alloc (World.ownsRow.alloc (Kit.owns_below hown hb2 (Nat.le_refl _)) _) _) ⟨w2.heap.size + 1,0,none⟩ 1 1 (cL c) rfl rfl (by (have hn:=news_c (w2.alloc (.cells #[.int .i64 c.t,.string c.s,.int .i64 c.n,.int .i64 c.a,.int .i64 c.b] 56)) c);rw [World.size_alloc] at hn;exact hn) (ones_c _) (by unfold maxLen;omega) (by omega) (by simp only [World.size_alloc];omega) ?_;intro v3 w3 ho3' hg3 _;have ho3:=OwnC.snoc ho3';have hbx:=((BX.new w2 #[.int .i64 c.t,.string c.s,.int .i64 c.n,.int .i64 c.a,.int .i64 c.b] 56).below ((Below.refl _ _).alloc (Nat.le_refl _) (.cells #[.int .i64 c.t,.string c.s,.int .i64 c.n,.int .i64 c.a,.int .i64 c.b] 56)) (by simp only [World.size_alloc];omega)).grown hg3 (fun e=>by (have:=Kit.own_lt hown _ e);omega);have c0:=hbx.cell 0;simp at c0;have hb3 : Below w.heap.size w w3:=Kit.below_grown (((belows hblw hb2 hbz).alloc (by omega) (.cells #[.int .i64 c.t,.string c.s,.int .i64 c.n,.int .i64 c.a,.int .i64 c.b] 56)).alloc (by simp only [World.size_alloc];omega) (.cells #[.int .i64 c.t,.string c.s,.int .i64 c.n,.int .i64 c.a,.int .i64 c.b] 56)) hg3 (by simp only [World.size_alloc];omega) (fun k e=>Kit.own_base hown k e);have hz3:=hb3.size;clear ho3')|(go_at_call 83;(with_reducible refine (HOn.out _ BLw _ (HS2.out _ hblw)).mono ?_);rintro e w2 ⟨rfl,hb2⟩;have hzz:=hb2.size))
      obtain ⟨sb,scb,rfl⟩:=own_form ho4
      go_roundw
      case rel=>exact ⟨xs ++ [c] ++ [Cp.C0],p + j,f,by go_num,by omega,ho4,hb4,by simp only [List.length_append,List.length_cons,List.length_nil];omega,by simp only [List.length_append,List.length_cons,List.length_nil];omega,HXE⟩
      case measure=>show n - (xs ++ [c] ++ [Cp.C0]).length < n - xs.length;simp only [List.length_append,List.length_cons,List.length_nil];omega
     ·have hd5 : (c.t == 5) = false:=by simpa using h5
      rw [if_neg h5] at hxe1
      have HXE:=hid hxe1
      clear HOn0 hxe1 he hsl2 hroom hxe h5
      go_wp2_with (first|(at_builtin;have _g:=ho3;refine wpList_append_own _ rfl (.tmp 54) (.tmp 56) 23 rfl w.heap.size 56 i0 _ 5 48 Tryz.underlying23 hi hz0 hz1 hz2 rfl (by decide) v3 _ _ rfl (World.ownsRow.alloc ho3 _) ⟨w3.heap.size,0,none⟩ 1 1 (cL Cp.C0) rfl rfl (news_c w3 Cp.C0) (ones_c _) (by unfold maxLen;rw [List.length_append];simp only [List.length_cons,List.length_nil];omega) (by rw [List.length_append];simp only [List.length_cons,List.length_nil];omega) (by simp only [World.size_alloc];omega) ?_;intro v4 w4 ho4' hg4 _;have ho4:=OwnC.snoc ho4';have hb4 : Below w.heap.size w w4:=Kit.below_grown (hb3.alloc hz3 (.cells #[.int .i64 0,.string ⟨#[]⟩,.int .i64 0,.int .i64 0,.int .i64 0] 56)) hg4 (by simp only [World.size_alloc];omega) (fun k e=>Kit.own_base ho3 k e))|(at_builtin;refine wpList_append_own _ rfl (.tmp 47) (.tmp 49) 23 rfl w.heap.size 56 i0 _ 5 48 Tryz.underlying23 hi hz0 hz1 hz2 rfl (by decide) _ _ _ rfl (World.ownsRow.alloc (World.ownsRow.alloc (Kit.owns_below hown hb2 (Nat.le_refl _)) _) _) ⟨w2.heap.size + 1,0,none⟩ 1 1 (cL c) rfl rfl (by (have hn:=news_c (w2.alloc (.cells #[.int .i64 c.t,.string c.s,.int .i64 c.n,.int .i64 c.a,.int .i64 c.b] 56)) c);rw [World.size_alloc] at hn;exact hn) (ones_c _) (by unfold maxLen;omega) (by omega) (by simp only [World.size_alloc];omega) ?_;intro v3 w3 ho3' hg3 _;have ho3:=OwnC.snoc ho3';have hbx:=((BX.new w2 #[.int .i64 c.t,.string c.s,.int .i64 c.n,.int .i64 c.a,.int .i64 c.b] 56).below ((Below.refl _ _).alloc (Nat.le_refl _) (.cells #[.int .i64 c.t,.string c.s,.int .i64 c.n,.int .i64 c.a,.int .i64 c.b] 56)) (by simp only [World.size_alloc];omega)).grown hg3 (fun e=>by (have:=Kit.own_lt hown _ e);omega);have c0:=hbx.cell 0;simp at c0;have hb3 : Below w.heap.size w w3:=Kit.below_grown (((belows hblw hb2 hbz).alloc (by omega) (.cells #[.int .i64 c.t,.string c.s,.int .i64 c.n,.int .i64 c.a,.int .i64 c.b] 56)).alloc (by simp only [World.size_alloc];omega) (.cells #[.int .i64 c.t,.string c.s,.int .i64 c.n,.int .i64 c.a,.int .i64 c.b] 56)) hg3 (by simp only [World.size_alloc];omega) (fun k e=>Kit.own_base hown k e);have hz3:=hb3.size;clear ho3')|(go_at_call 83;(with_reducible refine (HOn.out _ BLw _ (HS2.out _ hblw)).mono ?_);rintro e w2 ⟨rfl,hb2⟩;have hzz:=hb2.size))
      obtain ⟨sb,scb,rfl⟩:=own_form ho3
      go_roundw
      case rel=>exact ⟨xs ++ [c],p + j,f,by go_num,by omega,ho3,hb3,by simp only [List.length_append,List.length_cons,List.length_nil];omega,by simp only [List.length_append,List.length_cons,List.length_nil];omega,HXE⟩
      case measure=>show n - (xs ++ [c]).length < n - xs.length;simp only [List.length_append,List.length_cons,List.length_nil];omega
  ·have hxe1:=hxe.out
   unfold plGo at hxe1
   rw [if_neg hlt] at hxe1
   have HXE:=hid hxe1
   have hge : decide ((xs.length : Int) < (n : Int)) = false:=by simp;omega
   have HO:=hid hown
   clear hxe1 hown hxe
   go_wp2
   refine bodyPost_ret (v:=.tuple #[.slice sa xs.length sc,.int .i64 p,.int .i64 0]) (by simp [results,Tryz.results39,go_sem]) rfl ⟨.slice sa xs.length sc,?_,?_,hblw⟩
   ·rw [HXE.out]
    unfold tkO
    dsimp only
    rw [List.length_drop,show ((bs.length : Int) - ((bs.length - p : Nat) : Int)) = (p : Int) by omega]
   ·rw [HXE.out];exact HO.out
theorem rtake_any (bs : List UInt8) (v : Value) (w : World) (hv : Bs w.heap.size w v bs) : Calls Tryz.prog 39 #[v] w (TkPost (tkOut bs) w):=by
 by_cases h2 : bs.length < 2
 ·exact rtake_small bs v w hv (.inl h2)
 ·obtain ⟨hr0,hr1⟩:=numI_2 (l:=bs.take 2) (by rw [List.length_take];omega)
  by_cases hb : 4096 < Cp.numI (bs.take 2)
  ·exact rtake_small bs v w hv (.inr (.inl hb))
  ·by_cases h0 : Cp.numI (bs.take 2) = 0
   ·exact rtake_small bs v w hv (.inr (.inr h0))
   ·obtain ⟨n,hn⟩:=Int.eq_ofNat_of_zero_le hr0
    rw [tk_loop h2 hn (by omega) (by omega)]
    exact rtake_loop bs n v w hv h2 hn (by omega) (by omega)
end Go.Proofs.YtnojgiflgmnjlaaGreatDoor.L3
namespace Go.Proofs.YtnojgiflgmnjlaaGreatDoor.L3
open Go.RowKit
theorem c_at {w : World} {v : Value} {l : List Cp.C} (h : Kit.IsS 5 w v l.length (l.flatMap cL)) {k : Nat} {x : Cp.C} (hx : l[k]? = some x) :
  ∃ b o cap,v = .slice (some ⟨b,o,none⟩) l.length cap ∧ b < w.heap.size ∧ w.cell? ⟨b,o + k * 5,none⟩ = some (.int .i64 x.t) ∧ w.cell? ⟨b,o + k * 5 + 1,none⟩ = some (.string x.s) ∧ w.cell? ⟨b,o + k * 5 + 2,none⟩ = some (.int .i64 x.n) ∧ w.cell? ⟨b,o + k * 5 + 3,none⟩ = some (.int .i64 x.a) ∧ w.cell? ⟨b,o + k * 5 + 4,none⟩ = some (.int .i64 x.b):=by
 have hk : k < l.length:=by rw [List.getElem?_eq_some_iff] at hx;exact hx.1
 obtain ⟨b,o,cap,hv,-,hlt,hc⟩:=h.some (by omega)
 have f:=fun j hj=>Kit.flat_at cL_len hx j hj
 refine ⟨b,o,cap,hv,hlt,?_,?_,?_,?_,?_⟩
 ·exact hc (k * 5 + 0) _ (f 0 (by omega))
 ·exact hc (k * 5 + 1) _ (f 1 (by omega))
 ·exact hc (k * 5 + 2) _ (f 2 (by omega))
 ·exact hc (k * 5 + 3) _ (f 3 (by omega))
 ·exact hc (k * 5 + 4) _ (f 4 (by omega))
def OwnI (w : World) (base : Nat) (v : Value) (l : List Int) : Prop:=w.ownsRow base 5 1 v l.length (l.map (Value.int .u8))
theorem nilI (w : World) (base : Nat) : OwnI w base (.slice none 0 0) []:=⟨rfl,.inl ⟨rfl,rfl⟩⟩
theorem OwnI.snoc {w : World} {base : Nat} {v : Value} {l : List Int} {z : Int} (h : w.ownsRow base 5 1 v (l.length + 1) (l.map (Value.int .u8) ++ [.int .u8 z])) : OwnI w base v (l ++ [z]):=by
 unfold OwnI
 rw [List.length_append,List.map_append]
 exact h
theorem infoB : (Tryz.prog.info? 5).map (fun i=>(i.zero,i.size,i.bytes)) = some (some (.int .u8 0),1,1):=by kernel_rfl
def byteN (z : Int) (size k : Nat) : Int:=(z / 2 ^ (8 * (size - 1 - k))) % 256
def bytesN (z : Int) (size : Nat) : List Int:=(List.range size).map (byteN z size)
theorem bytesN_take {z : Int} {size k : Nat} (h : k < size) : (bytesN z size).take (k + 1) = (bytesN z size).take k ++ [byteN z size k]:=by
 unfold bytesN
 rw [List.take_add_one,List.getElem?_map,List.getElem?_range h]
 rfl
theorem bytesN_len (z : Int) (size : Nat) : (bytesN z size).length = size:=by unfold bytesN;simp
set_option maxHeartbeats 1000000 in
theorem write_any (base : Nat) (l : List Int) (v : Value) (z : Int) (size : Nat) (w : World) (ho : OwnI w base v l) (hb : base ≤ w.heap.size) (hl : l.length ≤ 1099511627776) (hs : size ≤ 8) :
  Calls Tryz.prog 86 #[v,.int .i64 z,.int .i64 size] w fun e w'=>∃ v',e = .returned v' ∧ OwnI w' base v' (l ++ bytesN z size) ∧ Kit.Grows w w' v v':=by
 have HO:=hid ho
 obtain ⟨i0,hi,hz0,hz1,hz2⟩:=info_parts infoB
 clear ho
 go_enter Tryz.func86,Tryz.ntmps86
 go_wp2
 go_loopw [0,9] (fun u i wr=>∃ k : Nat,k ≤ size ∧ i = .int .i64 k ∧ OwnI wr base u (l ++ (bytesN z size).take k) ∧ Kit.Grows w wr v u) (fun _ i _=>size - (intOf i).toNat)
 case atStart=>exact ⟨0,by omega,rfl,by rw [List.take_zero,List.append_nil];exact HO.out,Kit.Grows.refl _ _⟩
 case round =>
  obtain ⟨k,hk,rfl,hown,hgr⟩:=hrel
  have hzr:=hgr.size
  have hlk : (l ++ (bytesN z size).take k).length ≤ 1099511627776 + 8:=by rw [List.length_append,List.length_take,bytesN_len];omega
  by_cases hlt : k < size
  ·have hki : (k : Int) < size:=by omega
   have hw1 : IntKind.i64.wrap ((size : Int) - 1) = (size : Int) - 1:=IntWalk.i64_in _ (by omega)
   have hw2 : IntKind.i64.wrap ((size : Int) - 1 - k) = (size : Int) - 1 - k:=IntWalk.i64_in _ (by omega)
   have hnn : ¬ ((size : Int) - 1 - k) * 8 < 0:=by omega
   have hBy:=hid (bytesN_take (z:=z) hlt)
   obtain ⟨m,hm⟩ : ∃ m : Nat,(size : Int) - 1 - k = m:=⟨size - 1 - k,by omega⟩
   have hB:=hid (show byteN z size k = z / 2 ^ (8 * m) % 256 by unfold byteN;rw [show size - 1 - k = m by omega])
   go_wp2_with (at_builtin;refine wpList_append_own_at _ rfl (.tmp 12) (.tmp 21) 22 rfl base 5 i0 _ 1 1 Tryz.underlying22 hi hz0 hz1 hz2 rfl (by decide) _ _ _ rfl (World.ownsRow.alloc hown _) ⟨wr.heap.size,0,none⟩ 1 1 [.int .u8 (z / 2 ^ (8 * m) % 256)] rfl rfl (Kit.news_one _ _ _) (Kit.ones_one rfl) (by unfold maxLen;omega) (by omega) (by simp only [World.size_alloc];omega) ?_;intro v1 w1 ho1' hg1 _ hk1;have ho1:=OwnI.snoc ho1';have G1:=Kit.grows_append ((Below.refl wr.heap.size wr).alloc (Nat.le_refl _) (.cells #[.int .u8 (z / 2 ^ (8 * m) % 256)] 5)) hg1 hk1;clear ho1' hg1 hk1)
   rw [← hB.out,List.append_assoc,← hBy.out] at ho1
   go_roundw
   case rel=>exact ⟨k + 1,by omega,by go_num,ho1,hgr.trans G1⟩
   case measure=>simp [intOf];omega
  ·obtain rfl : k = size:=by omega
   have HT:=hid (show (bytesN z k).take k = bytesN z k from List.take_of_length_le (by rw [bytesN_len];exact Nat.le_refl _))
   go_wp2
   go_ret
   exact ⟨_,rfl,by rw [← HT.out];exact hown,hgr⟩
end Go.Proofs.YtnojgiflgmnjlaaGreatDoor.L3
