/- Own texts for the claim, part 9. -/
import Derived.Test.YtnojgiflgmnjlaaGreatDoorZD8
import Derived.Deep.Upon
import Derived.Maps.Own
import Derived.Maps.OwnOps
import Derived.Maps.OwnSet
import Derived.Lib.Bytealg
import Derived.Lib.IndexLaws
import Derived.Lib.IndexBytes
import Derived.Lib.IndexAny
import Derived.Lib.Strings
import Derived.Shelf.Small.Strs
import Derived.Shelf.Strings.Search1
import Derived.Shelf.Strings.Search2
import Derived.Shelf.Strings.Search3
set_option maxRecDepth 100000
namespace Go.Proofs.YtnojgiflgmnjlaaGreatDoor.L3
open Go.RowKit
theorem ck_all {l : List Cp.C} : CkIs l 0 ↔ (l.length ≤ 4096 ∧ ∀ i,i < l.length → errAt l i = 0):=by
 constructor
 ·rintro (⟨-,h⟩|⟨h1,⟨-,h⟩|⟨-,-,-,h,-⟩⟩)
  ·omega
  ·exact ⟨h1,h⟩
  ·exact absurd rfl h
 ·rintro ⟨h1,h2⟩
  exact .inr ⟨h1,.inl ⟨rfl,h2⟩⟩
theorem prev_app {l m : List Cp.C} {j : Nat} (hj : j ≤ l.length) : prevB (l ++ m) j = prevB l j:=by
 cases j with
 | zero=>rfl
 | succ k =>
  unfold prevB
  dsimp only
  rw [List.getElem?_append_left (by omega)]
theorem err_app {l m : List Cp.C} {j : Nat} (hj : j < l.length) (h : errAt l j = 0) : errAt (l ++ m) j = 0:=by
 obtain ⟨c,hc⟩ : ∃ c,l[j]? = some c:=⟨l[j],List.getElem?_eq_getElem hj⟩
 have hc2 : (l ++ m)[j]? = some c:=by rw [List.getElem?_append_left hj];exact hc
 unfold errAt at h ⊢
 rw [hc] at h
 rw [hc2,prev_app (by omega)]
 dsimp only at h ⊢
 cases hp : prevB l j with
 | true=>rw [hp] at h;exact h
 | false =>
  rw [hp] at h
  rw [if_neg (by simp)] at h ⊢
  by_cases h5 : c.t = 5 ∧ j = l.length - 1
  ·rw [if_pos h5] at h;omega
  ·rw [if_neg h5] at h
   by_cases h6 : c.t = 5 ∧ j = (l ++ m).length - 1
   ·rw [List.length_append] at h6
    exact absurd ⟨h6.1,by omega⟩ h5
   ·rw [if_neg h6];exact h
theorem last_ok {l : List Cp.C} (h : CkIs l 0) (h0 : l.length ≠ 0) : prevB l l.length = false:=by
 obtain ⟨k,hk⟩ : ∃ k,l.length = k + 1:=⟨l.length - 1,by omega⟩
 have h1:=(ck_all.1 h).2 k (by omega)
 obtain ⟨c,hc⟩ : ∃ c,l[k]? = some c:=⟨l[k]'(by omega),List.getElem?_eq_getElem _⟩
 rw [hk]
 unfold prevB
 dsimp only
 rw [hc]
 dsimp only
 unfold errAt at h1
 rw [hc] at h1
 dsimp only at h1
 cases hp : prevB l k with
 | true =>
  rw [hp,if_pos rfl] at h1
  by_cases hc0 : c = Cp.C0
  ·rw [hc0];rfl
  ·rw [if_neg hc0] at h1;omega
 | false =>
  rw [hp,if_neg (by simp)] at h1
  by_cases h5 : c.t = 5
  ·rw [if_pos ⟨h5,by omega⟩] at h1;omega
  ·simpa using h5
theorem hd_ok {l : List Cp.C} (h : CkIs l 0) : (hdP l).length ≠ 0 ∧ (∀ j,j < (hdP l).length → ∀ m,errAt (hdP l ++ m) j = 0) ∧ ∀ m,prevB (hdP l ++ m) (hdP l).length = false:=by
 unfold hdP
 by_cases h0 : l.length = 0
 ·rw [if_pos h0]
  obtain rfl:=List.length_eq_zero_iff.1 h0
  refine ⟨by simp,fun j hj m=>?_,fun m=>by simp [prevB,Cp.C0]⟩
  have : j = 0:=by simpa using hj
  subst this
  simp [errAt,prevB]
 ·rw [if_neg h0]
  refine ⟨h0,fun j hj m=>err_app hj ((ck_all.1 h).2 j hj),fun m=>?_⟩
  rw [prev_app (Nat.le_refl _)]
  exact last_ok h h0
theorem app_ok {l : List Cp.C} {c : Cp.C} (h : CkIs l 0) (hc : ceOut c = 0) (hn : (appE (hdP l) c).length ≤ 4096) : CkIs (appE (hdP l) c) 0:=by
 refine ck_all.2 ⟨hn,?_⟩
 obtain ⟨h1,h2,h3⟩:=hd_ok h
 unfold appE
 by_cases h5 : c.t = 5
 ·rw [if_pos h5]
  intro j hj
  rw [List.append_assoc] at hj ⊢
  rw [List.length_append] at hj
  simp only [List.cons_append,List.nil_append,List.length_cons,List.length_nil] at hj
  rcases Nat.lt_trichotomy j (hdP l).length with hlt|rfl|hgt
  ·exact h2 j hlt _
  ·unfold errAt
   rw [show (hdP l ++ ([c] ++ [Cp.C0]))[(hdP l).length]? = some c by simp]
   dsimp only
   rw [h3,if_neg (by simp),if_neg (by rintro ⟨-,e⟩;simp at e),hc]
  ·obtain rfl : j = (hdP l).length + 1:=by omega
   unfold errAt
   rw [show (hdP l ++ ([c] ++ [Cp.C0]))[(hdP l).length + 1]? = some Cp.C0 by rw [List.getElem?_append_right (by omega)];simp]
   dsimp only
   rw [show prevB (hdP l ++ ([c] ++ [Cp.C0])) ((hdP l).length + 1) = true by unfold prevB;dsimp only;rw [show (hdP l ++ ([c] ++ [Cp.C0]))[(hdP l).length]? = some c by simp];simpa using h5]
   rfl
 ·rw [if_neg h5]
  intro j hj
  rw [List.length_append] at hj
  simp only [List.length_cons,List.length_nil] at hj
  rcases Nat.lt_or_ge j (hdP l).length with hlt|hge
  ·exact h2 j hlt _
  ·obtain rfl : j = (hdP l).length:=by omega
   unfold errAt
   rw [show (hdP l ++ [c])[(hdP l).length]? = some c by simp]
   dsimp only
   rw [h3,if_neg (by simp),if_neg (fun e=>h5 e.1),hc]
theorem app_pre (l : List Cp.C) (c : Cp.C) : ∃ t,appE l c = l ++ (c :: t):=by
 unfold appE
 by_cases h5 : c.t = 5
 ·rw [if_pos h5];exact ⟨[Cp.C0],by simp⟩
 ·rw [if_neg h5];exact ⟨[],rfl⟩
theorem hd_pre (l : List Cp.C) : ∃ t,hdP l = l ++ t:=by
 unfold hdP
 by_cases h0 : l.length = 0
 ·rw [if_pos h0];exact ⟨_,rfl⟩
 ·rw [if_neg h0];exact ⟨[],by simp⟩
theorem ad_good {l : List Cp.C} {c : Cp.C} {m : List Cp.C} {i : Nat} (h : AdIs l c m i 0) : 1 ≤ i ∧ m[i]? = some c ∧ (∃ t,m = l ++ t) ∧ CkIs m 0 ∧ AdIs m c m i 0 ∧ ∀ x ∈ m,x ∈ l ∨ x = c ∨ x = Cp.C0:=by
 rcases h with ⟨-,h,-⟩|⟨h1,⟨-,h,-⟩|⟨h2,⟨h3,-,rfl⟩|⟨h3,⟨-,h,-⟩|⟨h4,-,rfl,rfl⟩⟩⟩⟩
 ·exact absurd rfl h
 ·exact absurd rfl h
 ·rcases h3 with ⟨h,-⟩|⟨-,k1,k2,k3,k4⟩
  ·cases h
  ·exact ⟨k1,k3,⟨[],by simp⟩,h1,.inr ⟨h1,.inr ⟨h2,.inl ⟨.inr ⟨rfl,k1,k2,k3,k4⟩,rfl,rfl⟩⟩⟩,fun x hx=>.inl hx⟩
 ·omega
 ·have hck:=app_ok h1 h2 h4
  obtain ⟨t,ht⟩:=app_pre (hdP l) c
  obtain ⟨t2,ht2⟩:=hd_pre l
  have hi : (appE (hdP l) c)[(hdP l).length]? = some c:=by rw [ht,List.getElem?_append_right (Nat.le_refl _)];simp
  have h0:=(hd_ok h1).1
  have hct : c.t ≠ 0:=by
   have:=(ce_size h2).1
   intro e
   rw [e] at this
   cases this
  refine ⟨by omega,hi,⟨t2 ++ (c :: t),by (rw [ht];conv=>lhs;rw [ht2]);rw [List.append_assoc]⟩,hck,.inr ⟨hck,.inr ⟨h2,.inl ⟨.inr ⟨rfl,by omega,hct,hi,fun j hj hlt hc=>?_⟩,rfl,rfl⟩⟩⟩,fun x hx=>?_⟩
  ·rcases h3 with ⟨-,-,k⟩|⟨k,-⟩
   ·rw [ht,List.getElem?_append_left hlt] at hc
    refine k j hj hct ?_
    unfold hdP at hc hlt
    by_cases hl : l.length = 0
    ·rw [if_pos hl,List.length_append,hl] at hlt
     simp only [List.length_cons,List.length_nil] at hlt
     omega
    ·rw [if_neg hl] at hc
     exact hc
   ·cases k
  ·unfold appE at hx
   have hh : ∀ y ∈ hdP l,y ∈ l ∨ y = Cp.C0:=by
    intro y hy
    unfold hdP at hy
    by_cases hl : l.length = 0
    ·rw [if_pos hl] at hy
     rcases List.mem_append.1 hy with hy|hy
     ·exact .inl hy
     ·exact .inr (by simpa using hy)
    ·rw [if_neg hl] at hy
     exact .inl hy
   have h7 : x ∈ hdP l ∨ x = c ∨ x = Cp.C0:=by
    by_cases h5 : c.t = 5
    ·rw [if_pos h5] at hx
     rcases List.mem_append.1 hx with hx|hx
     ·rcases List.mem_append.1 hx with hx|hx
      ·exact .inl hx
      ·exact .inr (.inl (by simpa using hx))
     ·exact .inr (.inr (by simpa using hx))
    ·rw [if_neg h5] at hx
     rcases List.mem_append.1 hx with hx|hx
     ·exact .inl hx
     ·exact .inr (.inl (by simpa using hx))
   rcases h7 with h7|h7|h7
   ·rcases hh x h7 with h8|h8
    ·exact .inl h8
    ·exact .inr (.inr h8)
   ·exact .inr (.inl h7)
   ·exact .inr (.inr h7)
end Go.Proofs.YtnojgiflgmnjlaaGreatDoor.L3
namespace Go.Proofs.YtnojgiflgmnjlaaGreatDoor.L3
open Go.RowKit
def enA (l : List Cp.C) (i tag : Int) : Option Cp.C:=if 0 ≤ i ∧ i < l.length then (match l[i.toNat]? with
 | some c=>if c.t = tag then some c else none
 | none=>none) else none
def enV (x : Option Cp.C) : Cp.C:=x.getD Cp.C0
def erV {α : Type} (x : Option α) : Int:=match x with|some _=>0|none=>33
theorem enA_cases (l : List Cp.C) (i tag : Int) : (i < 0 ∧ enA l i tag = none) ∨ (¬ i < 0 ∧ (l.length : Int) ≤ i ∧ enA l i tag = none) ∨ (∃ (k : Nat) (c : Cp.C),i = k ∧ k < l.length ∧ l[k]? = some c ∧ ((c.t = tag ∧ enA l i tag = some c) ∨ (c.t ≠ tag ∧ enA l i tag = none))):=by
 unfold enA
 by_cases h0 : i < 0
 ·exact .inl ⟨h0,by rw [if_neg (by omega)]⟩
 ·by_cases h1 : (l.length : Int) ≤ i
  ·exact .inr (.inl ⟨h0,h1,by rw [if_neg (by omega)]⟩)
  ·obtain ⟨k,rfl⟩:=Int.eq_ofNat_of_zero_le (show 0 ≤ i by omega)
   have hk : k < l.length:=by omega
   refine .inr (.inr ⟨k,l[k],rfl,hk,List.getElem?_eq_getElem hk,?_⟩)
   rw [if_pos (by omega),show ((k : Int)).toNat = k by omega,List.getElem?_eq_getElem hk]
   dsimp only
   by_cases ht : l[k].t = tag
   ·exact .inl ⟨ht,by rw [if_pos ht]⟩
   ·exact .inr ⟨ht,by rw [if_neg ht]⟩
set_option maxHeartbeats 1000000 in
theorem entryAt_any (l : List Cp.C) (i tag : Int) (v : Value) (w : World) (hv : Kit.IsS 5 w v l.length (l.flatMap cL)) :
  Calls Tryz.prog 120 #[v,.int .i64 i,.int .i64 tag] w fun e w'=>e = .returned (.tuple #[.agg (cC (enV (enA l i tag))),.int .i64 (erV (enA l i tag))]) ∧ Below w.heap.size w w':=by
 have hlen:=hv.2.1
 rcases enA_cases l i tag with ⟨h0,hn⟩|⟨h0,h1,hn⟩|⟨k,c,rfl,hk,hc,⟨ht,hn⟩|⟨ht,hn⟩⟩
 ·obtain ⟨a,cap,rfl⟩:=hv.len
  rw [hn]
  have hd : decide (i < 0) = true:=by simpa using h0
  clear hv hn
  go_enter Tryz.func120,Tryz.ntmps120;go_wp2
  exact bodyPost_ret (v:=.tuple #[.agg #[.int .i64 0,.string ⟨#[]⟩,.int .i64 0,.int .i64 0,.int .i64 0],.int .i64 33]) (by simp [results,Tryz.results120,go_sem]) rfl ⟨rfl,BLw⟩
 ·obtain ⟨a,cap,rfl⟩:=hv.len
  rw [hn]
  have hd : decide (i < 0) = false:=by simpa using h0
  have hd2 : decide ((l.length : Int) ≤ i) = true:=by simpa using h1
  clear hv hn
  go_enter Tryz.func120,Tryz.ntmps120;go_wp2
  exact bodyPost_ret (v:=.tuple #[.agg #[.int .i64 0,.string ⟨#[]⟩,.int .i64 0,.int .i64 0,.int .i64 0],.int .i64 33]) (by simp [results,Tryz.results120,go_sem]) rfl ⟨rfl,BLw⟩
 ·obtain ⟨b,o,cap,rfl,hb,c0,c1,c2,c3,c4⟩:=c_at hv hc
  rw [hn]
  have hd2 : decide ((l.length : Int) ≤ (k : Int)) = false:=by simp;omega
  have hki : (k : Int) < l.length:=by omega
  unfold enV erV cC
  dsimp only [Option.getD_some]
  obtain ⟨t,s,n,a,bb⟩:=c
  dsimp only at c0 c1 c2 c3 c4 ht ⊢
  subst ht
  clear hv hn hc
  go_enter Tryz.func120,Tryz.ntmps120;go_wp2
  exact bodyPost_ret (v:=.tuple #[.agg #[.int .i64 t,.string s,.int .i64 n,.int .i64 a,.int .i64 bb],.int .i64 0]) (by simp [results,Tryz.results120,go_sem]) rfl ⟨rfl,BLw⟩
 ·obtain ⟨b,o,cap,rfl,hb,c0,c1,c2,c3,c4⟩:=c_at hv hc
  rw [hn]
  have hd2 : decide ((l.length : Int) ≤ (k : Int)) = false:=by simp;omega
  have hki : (k : Int) < l.length:=by omega
  have hd0 : decide ((k : Int) < 0) = false:=by simp
  have hd2n : decide (l.length ≤ k) = false:=by simp;omega
  have hd3 : (c.t != tag) = true:=by simpa using ht
  clear hv hn hc ht
  go_enter Tryz.func120,Tryz.ntmps120;go_wp2
  exact bodyPost_ret (v:=.tuple #[.agg #[.int .i64 0,.string ⟨#[]⟩,.int .i64 0,.int .i64 0,.int .i64 0],.int .i64 33]) (by simp [results,Tryz.results120,go_sem]) rfl ⟨rfl,BLw⟩
set_option maxHeartbeats 1000000 in
theorem at_any (l : List Cp.C) (i tag : Int) (v : Value) (w : World) (hv : Kit.IsS 5 w v l.length (l.flatMap cL)) :
  Calls Tryz.prog 121 #[v,.int .i64 i,.int .i64 tag] w fun e w'=>e = .returned (.tuple #[.agg (cC (enV (enA l i tag))),.bool (enA l i tag).isSome]) ∧ Below w.heap.size w w':=by
 have hlen:=hv.2.1
 rcases enA_cases l i tag with ⟨h0,hn⟩|⟨h0,h1,hn⟩|⟨k,c,rfl,hk,hc,⟨ht,hn⟩|⟨ht,hn⟩⟩
 ·obtain ⟨a,cap,rfl⟩:=hv.len
  rw [hn]
  have hd : decide (i < 0) = true:=by simpa using h0
  clear hv hn
  go_enter Tryz.func121,Tryz.ntmps121;go_wp2
  exact bodyPost_ret (v:=.tuple #[.agg #[.int .i64 0,.string ⟨#[]⟩,.int .i64 0,.int .i64 0,.int .i64 0],.bool false]) (by simp [results,Tryz.results121,go_sem]) rfl ⟨rfl,BLw⟩
 ·obtain ⟨a,cap,rfl⟩:=hv.len
  rw [hn]
  have hd : decide (i < 0) = false:=by simpa using h0
  have hd2 : decide ((l.length : Int) ≤ i) = true:=by simpa using h1
  clear hv hn
  go_enter Tryz.func121,Tryz.ntmps121;go_wp2
  exact bodyPost_ret (v:=.tuple #[.agg #[.int .i64 0,.string ⟨#[]⟩,.int .i64 0,.int .i64 0,.int .i64 0],.bool false]) (by simp [results,Tryz.results121,go_sem]) rfl ⟨rfl,BLw⟩
 ·obtain ⟨b,o,cap,rfl,hb,c0,c1,c2,c3,c4⟩:=c_at hv hc
  rw [hn]
  have hd2 : decide ((l.length : Int) ≤ (k : Int)) = false:=by simp;omega
  have hki : (k : Int) < l.length:=by omega
  unfold enV cC
  dsimp only [Option.getD_some,Option.isSome_some]
  obtain ⟨t,s,n,a,bb⟩:=c
  dsimp only at c0 c1 c2 c3 c4 ht ⊢
  subst ht
  clear hv hn hc
  go_enter Tryz.func121,Tryz.ntmps121;go_wp2
  exact bodyPost_ret (v:=.tuple #[.agg #[.int .i64 t,.string s,.int .i64 n,.int .i64 a,.int .i64 bb],.bool true]) (by simp [results,Tryz.results121,go_sem]) rfl ⟨rfl,BLw⟩
 ·obtain ⟨b,o,cap,rfl,hb,c0,c1,c2,c3,c4⟩:=c_at hv hc
  rw [hn]
  have hd2 : decide ((l.length : Int) ≤ (k : Int)) = false:=by simp;omega
  have hki : (k : Int) < l.length:=by omega
  have hd0 : decide ((k : Int) < 0) = false:=by simp
  have hd2n : decide (l.length ≤ k) = false:=by simp;omega
  have hd3 : (c.t != tag) = true:=by simpa using ht
  clear hv hn hc ht
  go_enter Tryz.func121,Tryz.ntmps121;go_wp2
  exact bodyPost_ret (v:=.tuple #[.agg #[.int .i64 0,.string ⟨#[]⟩,.int .i64 0,.int .i64 0,.int .i64 0],.bool false]) (by simp [results,Tryz.results121,go_sem]) rfl ⟨rfl,BLw⟩
end Go.Proofs.YtnojgiflgmnjlaaGreatDoor.L3
namespace Go.Proofs.YtnojgiflgmnjlaaGreatDoor.L3
open Go.RowKit
def txO (l : List Cp.C) (i : Int) : ByteArray × Int:=((enV (enA l i 1)).s,erV (enA l i 1))
def clO (l : List Cp.C) (i : Int) : ByteArray × Int:=match enA l i 7 with
 | none=>(⟨#[]⟩,33)
 | some c=>txO l c.a
set_option maxHeartbeats 400000 in
theorem text_at (l : List Cp.C) (i : Int) (v : Value) (w : World) (hv : Kit.IsS 5 w v l.length (l.flatMap cL)) :
  Calls Tryz.prog 63 #[v,.int .i64 i] w fun e w'=>e = .returned (.tuple #[.string (txO l i).1,.int .i64 (txO l i).2]) ∧ Below w.heap.size w w':=by
 have HE0:=fun W (h : Below w.heap.size w W)=>entryAt_any l i 1 v W (hv.below h (Nat.le_refl _))
 unfold txO
 obtain ⟨c,hc⟩ : ∃ c,c = enV (enA l i 1):=⟨_,rfl⟩
 obtain ⟨er,her⟩ : ∃ er,er = erV (enA l i 1):=⟨_,rfl⟩
 rw [← hc,← her] at HE0 ⊢
 unfold cC at HE0
 have HE:=hid HE0
 clear HE0 hc her hv
 go_enter Tryz.func63,Tryz.ntmps63
 go_wp2_with (go_at_call 120;refine (HE.out _ BLw).mono ?_;rintro e w1 ⟨rfl,hb1⟩;have hz1:=hb1.size)
 go_ret2
 exact ⟨rfl,BLw⟩
set_option maxHeartbeats 400000 in
theorem rtext_at (l : List Cp.C) (i : Int) (v : Value) (w : World) (hv : Kit.IsS 5 w v l.length (l.flatMap cL)) :
  Calls Tryz.prog 64 #[v,.int .i64 i] w fun e w'=>e = .returned (.tuple #[.string (txO l i).1,.int .i64 (txO l i).2]) ∧ Below w.heap.size w w':=by
 have HE0:=fun W (h : Below w.heap.size w W)=>at_any l i 1 v W (hv.below h (Nat.le_refl _))
 unfold txO
 cases hx : enA l i 1 with
 | none =>
  rw [hx] at HE0
  unfold enV Cp.C0 cC at HE0
  dsimp only [Option.getD_none,Option.isSome_none] at HE0
  have HE:=hid HE0
  clear HE0 hx hv
  go_enter Tryz.func64,Tryz.ntmps64
  go_wp2_with (go_at_call 121;refine (HE.out _ BLw).mono ?_;rintro e w1 ⟨rfl,hb1⟩;have hz1:=hb1.size)
  go_ret2
  exact ⟨rfl,BLw⟩
 | some c =>
  rw [hx] at HE0
  unfold enV cC at HE0
  dsimp only [Option.getD_some,Option.isSome_some] at HE0
  have HE:=hid HE0
  clear HE0 hx hv
  go_enter Tryz.func64,Tryz.ntmps64
  go_wp2_with (go_at_call 121;refine (HE.out _ BLw).mono ?_;rintro e w1 ⟨rfl,hb1⟩;have hz1:=hb1.size)
  go_ret2
  exact ⟨rfl,BLw⟩
set_option maxHeartbeats 400000 in
theorem class_at (l : List Cp.C) (i : Int) (v : Value) (w : World) (hv : Kit.IsS 5 w v l.length (l.flatMap cL)) :
  Calls Tryz.prog 61 #[v,.int .i64 i] w fun e w'=>e = .returned (.tuple #[.string (clO l i).1,.int .i64 (clO l i).2]) ∧ Below w.heap.size w w':=by
 have HE0:=fun W (h : Below w.heap.size w W)=>entryAt_any l i 7 v W (hv.below h (Nat.le_refl _))
 have HT0:=fun j W (h : Below w.heap.size w W)=>text_at l j v W (hv.below h (Nat.le_refl _))
 unfold clO
 cases hx : enA l i 7 with
 | none =>
  rw [hx] at HE0
  unfold enV erV Cp.C0 cC at HE0
  dsimp only [Option.getD_none] at HE0
  have HE:=hid HE0
  clear HE0 hx hv HT0
  go_enter Tryz.func61,Tryz.ntmps61
  go_wp2_with (go_at_call 120;refine (HE.out _ BLw).mono ?_;rintro e w1 ⟨rfl,hb1⟩;have hz1:=hb1.size)
  go_ret2
  exact ⟨rfl,BLw⟩
 | some c =>
  rw [hx] at HE0
  unfold enV erV cC at HE0
  dsimp only [Option.getD_some] at HE0 ⊢
  have HE:=hid HE0
  have HT:=hid (HT0 c.a)
  clear HE0 hx hv HT0
  go_enter Tryz.func61,Tryz.ntmps61
  go_wp2_with (first|(go_at_call 120;refine (HE.out _ BLw).mono ?_;rintro e w1 ⟨rfl,hb1⟩;have hz1:=hb1.size)|(go_at_call 63;refine (HT.out _ BLw).mono ?_;rintro e w2 ⟨rfl,hb2⟩))
  go_ret2
  exact ⟨rfl,belows (hb1.alloc hb1.size (.cells #[.int .i64 c.t,.string c.s,.int .i64 c.n,.int .i64 c.a,.int .i64 c.b] 56)) hb2 (by rw [World.size_alloc];have:=hb1.size;omega)⟩
set_option maxHeartbeats 400000 in
theorem rclass_at (l : List Cp.C) (i : Int) (v : Value) (w : World) (hv : Kit.IsS 5 w v l.length (l.flatMap cL)) :
  Calls Tryz.prog 62 #[v,.int .i64 i] w fun e w'=>e = .returned (.tuple #[.string (clO l i).1,.int .i64 (clO l i).2]) ∧ Below w.heap.size w w':=by
 have HE0:=fun W (h : Below w.heap.size w W)=>at_any l i 7 v W (hv.below h (Nat.le_refl _))
 have HT0:=fun j W (h : Below w.heap.size w W)=>rtext_at l j v W (hv.below h (Nat.le_refl _))
 unfold clO
 cases hx : enA l i 7 with
 | none =>
  rw [hx] at HE0
  unfold enV Cp.C0 cC at HE0
  dsimp only [Option.getD_none,Option.isSome_none] at HE0
  have HE:=hid HE0
  clear HE0 hx hv HT0
  go_enter Tryz.func62,Tryz.ntmps62
  go_wp2_with (go_at_call 121;refine (HE.out _ BLw).mono ?_;rintro e w1 ⟨rfl,hb1⟩;have hz1:=hb1.size)
  go_ret2
  exact ⟨rfl,BLw⟩
 | some c =>
  rw [hx] at HE0
  unfold enV cC at HE0
  dsimp only [Option.getD_some,Option.isSome_some] at HE0 ⊢
  have HE:=hid HE0
  have HT:=hid (HT0 c.a)
  clear HE0 hx hv HT0
  go_enter Tryz.func62,Tryz.ntmps62
  go_wp2_with (first|(go_at_call 121;refine (HE.out _ BLw).mono ?_;rintro e w1 ⟨rfl,hb1⟩;have hz1:=hb1.size)|(go_at_call 64;refine (HT.out _ BLw).mono ?_;rintro e w2 ⟨rfl,hb2⟩))
  go_ret2
  exact ⟨rfl,belows (hb1.alloc hb1.size (.cells #[.int .i64 c.t,.string c.s,.int .i64 c.n,.int .i64 c.a,.int .i64 c.b] 56)) hb2 (by rw [World.size_alloc];have:=hb1.size;omega)⟩
end Go.Proofs.YtnojgiflgmnjlaaGreatDoor.L3
namespace Go.Proofs.YtnojgiflgmnjlaaGreatDoor.L3
open Go.RowKit
def bsOf (zs : List Int) : List UInt8:=zs.map fun z=>UInt8.ofNat z.toNat
theorem bsOf_len (zs : List Int) : (bsOf zs).length = zs.length:=by unfold bsOf;simp
def Byt (zs : List Int) : Prop:=∀ z ∈ zs,0 ≤ z ∧ z < 256
theorem bv_of {z : Int} (h : 0 ≤ z ∧ z < 256) : bv (UInt8.ofNat z.toNat) = .int .u8 z:=by
 unfold bv
 rw [UInt8.toNat_ofNat']
 congr 1
 omega
theorem bs_of_own {W : World} {base : Nat} {v : Value} {zs : List Int} (h : OwnI W base v zs) (hz : Byt zs) (hn : zs.length ≤ 281474976710656) : Bs W.heap.size W v (bsOf zs):=by
 refine ⟨by rw [bsOf_len];exact hn,?_⟩
 have hh:=h
 rcases h.2 with ⟨rfl,h0⟩|⟨g,cap,cur,rfl,hg,hb,hc1,hc2,hc3,-⟩
 ·exact .inl ⟨by rw [List.length_eq_zero_iff.1 h0];rfl,none,0,rfl⟩
 ·have hcell:=hh.cells (g:=g) rfl
  refine .inr ⟨g,0,cap,by rw [bsOf_len],by rw [bsOf_len];exact hc1,(Array.getElem?_eq_some_iff.1 hb).1,fun i c hc=>?_⟩
  unfold bsOf at hc
  rw [List.getElem?_map,Option.map_eq_some_iff] at hc
  obtain ⟨z,hzi,rfl⟩:=hc
  rw [bv_of (hz z (List.mem_of_getElem? hzi))]
  have:=hcell i (.int .u8 z) (by rw [List.getElem?_map,hzi];rfl)
  rw [Go.WideShapes.add_plain] at this
  exact this
end Go.Proofs.YtnojgiflgmnjlaaGreatDoor.L3
namespace Go.Proofs.YtnojgiflgmnjlaaGreatDoor.L3
open Go.RowKit
theorem bytesN_succ (z : Int) (k : Nat) : bytesN z (k + 1) = bytesN (z / 256) k ++ [z % 256]:=by
 unfold bytesN
 rw [List.range_succ,List.map_append]
 congr 1
 ·refine List.map_congr_left fun i hi=>?_
  have hi':=List.mem_range.1 hi
  unfold byteN
  rw [show k + 1 - 1 - i = (k - 1 - i) + 1 by omega,show 8 * ((k - 1 - i) + 1) = 8 + 8 * (k - 1 - i) by omega,Int.pow_add,show (2 : Int) ^ 8 = 256 from rfl,Int.ediv_ediv,if_neg (by omega),Int.sub_zero]
 ·simp [byteN]
theorem bsOf_app (a b : List Int) : bsOf (a ++ b) = bsOf a ++ bsOf b:=by unfold bsOf;rw [List.map_append]
theorem bsOf_one (z : Int) : bsOf [z] = [UInt8.ofNat z.toNat]:=rfl
theorem u8_back (c : UInt8) : UInt8.ofNat ((c.toNat : Int)).toNat = c:=by simp
theorem u8_val {z : Int} (h : 0 ≤ z ∧ z < 256) : ((UInt8.ofNat z.toNat).toNat : Int) = z:=by
 rw [UInt8.toNat_ofNat']
 omega
theorem bsOf_text (l : List UInt8) : bsOf (l.map fun b=>(b.toNat : Int)) = l:=by
 unfold bsOf
 rw [List.map_map]
 conv=>rhs;rw [← List.map_id l]
 exact List.map_congr_left fun c _=>u8_back c
theorem bytes_num (l : List UInt8) : bsOf (bytesN (Cp.numU l) l.length) = l:=by
 refine Cp.rev_ind (P:=fun l=>bsOf (bytesN (Cp.numU l) l.length) = l) rfl (fun l c ih=>?_) l
 have hc:=Cp.u8_lt c
 rw [List.length_append,show [c].length = 1 from rfl,bytesN_succ,Cp.numU_snoc,show (Cp.numU l * 256 + (c.toNat : Int)) / 256 = Cp.numU l by omega,show (Cp.numU l * 256 + (c.toNat : Int)) % 256 = (c.toNat : Int) by omega,bsOf_app,ih,bsOf_one,u8_back]
theorem bytesN_add (k : Nat) : ∀ (z m : Int),bytesN (z + 256 ^ k * m) k = bytesN z k:=by
 induction k with
 | zero=>intro z m;rfl
 | succ k ih =>
  intro z m
  have e : z + 256 ^ (k + 1) * m = z + 256 * (256 ^ k * m):=by rw [Int.pow_succ,Int.mul_comm (256 ^ k) 256,Int.mul_assoc]
  rw [bytesN_succ,bytesN_succ,e,show (z + 256 * (256 ^ k * m)) / 256 = z / 256 + 256 ^ k * m by omega,show (z + 256 * (256 ^ k * m)) % 256 = z % 256 by omega,ih]
theorem mod_step (z P : Int) (hP : 0 < P) : z / 256 % P * 256 + z % 256 = z % (P * 256):=by
 have h1 : 0 ≤ z / 256 % P:=Int.emod_nonneg _ (by omega)
 have h2 : z / 256 % P < P:=Int.emod_lt_of_pos _ hP
 have h3:=Int.emod_add_mul_ediv (z / 256) P
 have h4 : z = 256 * (z / 256) + z % 256:=by omega
 have h5 : 0 ≤ z % 256 ∧ z % 256 < 256:=by omega
 generalize z / 256 % P = A at *
 generalize z / 256 / P = Y at *
 generalize z % 256 = S at *
 have e : z = (A * 256 + S) + (P * 256) * Y:=by
  rw [Int.mul_assoc,Int.mul_left_comm]
  omega
 rw [e,Int.add_mul_emod_self_left,Int.emod_eq_of_lt (by omega) (by omega)]
theorem num_bytes (k : Nat) : ∀ z : Int,Cp.numU (bsOf (bytesN z k)) = z % 256 ^ k:=by
 induction k with
 | zero=>intro z;show (0 : Int) = z % 1;omega
 | succ k ih =>
  intro z
  rw [bytesN_succ,bsOf_app,bsOf_one,Cp.numU_snoc,ih,u8_val (by omega),Int.pow_succ]
  exact mod_step z (256 ^ k) (Int.pow_pos (by decide))
theorem numI_4 {l : List UInt8} (h : l.length ≤ 4) : Cp.numI l = Cp.numU l:=by
 have hr:=Cp.numU_range l
 have hp : (256 : Int) ^ l.length ≤ 4294967296:=by
  match l.length,h with
  | 0,_=>decide
  | 1,_=>decide
  | 2,_=>decide
  | 3,_=>decide
  | 4,_=>decide
 rw [Cp.numI_U,Cp.w64]
 omega
theorem num2 (z : Int) (h : 0 ≤ z ∧ z ≤ 65535) : Cp.numI (bsOf (bytesN z 2)) = z:=by
 rw [numI_4 (by rw [bsOf_len,bytesN_len];omega),num_bytes]
 show z % 65536 = z
 omega
theorem num4 (z : Int) (h : z = IntKind.i32.wrap z) : IntKind.i32.wrap (Cp.numI (bsOf (bytesN z 4))) = z:=by
 rw [numI_4 (by rw [bsOf_len,bytesN_len];omega),num_bytes]
 show IntKind.i32.wrap (z % 4294967296) = z
 rw [IntKind.wrap_i32] at h ⊢
 omega
theorem num8 (z : Int) (h : I6 z) : Cp.numI (bsOf (bytesN z 8)) = z:=by
 unfold I6 at h
 rw [Cp.numI_U,num_bytes,Cp.w64]
 show (z % 18446744073709551616 + 9223372036854775808) % 18446744073709551616 - 9223372036854775808 = z
 omega
theorem back2 {l : List UInt8} (h : l.length = 2) : bsOf (bytesN (Cp.numI l) 2) = l:=by
 have:=bytes_num l
 rw [h] at this
 rw [numI_4 (by omega),this]
theorem back4 {l : List UInt8} (h : l.length = 4) : bsOf (bytesN (IntKind.i32.wrap (Cp.numI l)) 4) = l:=by
 have h1:=bytes_num l
 rw [h] at h1
 rw [numI_4 (by omega)]
 have e : IntKind.i32.wrap (Cp.numU l) = Cp.numU l + 256 ^ 4 * ((IntKind.i32.wrap (Cp.numU l) - Cp.numU l) / 4294967296):=by
  show _ = _ + 4294967296 * _
  rw [IntKind.wrap_i32]
  omega
 rw [e,bytesN_add,h1]
theorem back8 {l : List UInt8} (h : l.length = 8) : bsOf (bytesN (Cp.numI l) 8) = l:=by
 have h1:=bytes_num l
 rw [h] at h1
 rw [Cp.numI_U]
 have e : Cp.W64 (Cp.numU l) = Cp.numU l + 256 ^ 8 * ((Cp.W64 (Cp.numU l) - Cp.numU l) / 18446744073709551616):=by
  show _ = _ + 18446744073709551616 * _
  rw [Cp.w64]
  omega
 rw [e,bytesN_add,h1]
theorem num2_range {l : List UInt8} (h : l.length = 2) : 0 ≤ Cp.numI l ∧ Cp.numI l ≤ 65535:=by
 rw [numI_4 (by omega)]
 have:=Cp.numU_range l
 rw [h] at this
 have e : (256 : Int) ^ 2 = 65536:=rfl
 omega
theorem ce_zero {t : Int} {s : ByteArray} {n a b : Int} (hk : Cp.knownB t = true) (hn : I6 n) (h : eOk t s n a b) (hs : s.size ≤ 255) (hp : Cp.plainB (Cp.bl s) = true) : ceOut ⟨t,s,n,a,b⟩ = 0:=by
 rw [ce_yes hk hn h,hp]
 simp [hs]
theorem tx_back {s : ByteArray} (hs : s.size ≤ 255) (hp : Cp.plainB (Cp.bl s) = true) (r : List UInt8) : txP 2 (bsOf (bytesN s.size 2) ++ (Cp.bl s ++ r)) = .ok (Cp.bl s,r):=by
 have l2 : (bsOf (bytesN s.size 2)).length = 2:=by rw [bsOf_len,bytesN_len]
 have lb : (Cp.bl s).length = s.size:=bl_len s
 unfold txP
 rw [List.take_left' l2,List.drop_left' l2,num2 s.size (by omega),if_neg (by rw [List.length_append];omega),if_neg (by omega),if_neg (by rw [List.length_append];omega),Int.toNat_natCast,List.take_left' lb,List.drop_left' lb,if_pos hp]
theorem en_back {c : Cp.C} {room : Int} (hc : ceOut c = 0) (hn : I6 c.n) (hr : ¬ (c.t = 5 ∧ room < 2)) (r : List UInt8) : enP room (bsOf (encE c) ++ r) = .ok (c,r):=by
 obtain ⟨h1,h2,h3,h4⟩:=ce_size hc
 obtain ⟨t,s,n,a,b⟩:=c
 dsimp only at h1 h2 h3 h4 hn hr
 obtain ⟨e1,e2,e3,e4⟩:=(cut_ok h1 hn).1 h2
 rcases of_decide_eq_true h1 with rfl|rfl|rfl|rfl|ht
 ·obtain rfl : n = 0:=by omega
  obtain rfl : a = 0:=by omega
  obtain rfl : b = 0:=by omega
  rw [enc_text s 0 0 0 rfl,bsOf_app,bsOf_app,bsOf_text,show bsOf [1 % 256] = [1] from rfl,List.append_assoc,List.append_assoc]
  show enP room (1 :: (bsOf (bytesN s.size 2) ++ (Cp.bl s ++ r))) = _
  rw [en_utf,tx_back h3 h4]
 ·obtain rfl : s = ⟨#[]⟩:=e4.resolve_left (by omega)
  obtain rfl : a = 0:=by omega
  obtain rfl : b = 0:=by omega
  have hw : n = IntKind.i32.wrap n:=by
   rcases e1 with rfl|h|⟨-,h⟩
   ·rfl
   ·omega
   ·exact h
  have l4 : (bsOf (bytesN n 4)).length = 4:=by rw [bsOf_len,bytesN_len]
  rw [enc_num (t:=3) n 0 0 4 rfl,bsOf_app,show bsOf [3 % 256] = [3] from rfl,List.append_assoc]
  show enP room (3 :: (bsOf (bytesN n 4) ++ r)) = _
  rw [en_int,if_neg (by rw [List.length_append];omega),List.take_left' l4,List.drop_left' l4,num4 n hw]
 ·obtain rfl : s = ⟨#[]⟩:=e4.resolve_left (by omega)
  obtain rfl : a = 0:=by omega
  obtain rfl : b = 0:=by omega
  have l8 : (bsOf (bytesN n 8)).length = 8:=by rw [bsOf_len,bytesN_len]
  rw [enc_num (t:=5) n 0 0 8 rfl,bsOf_app,show bsOf [5 % 256] = [5] from rfl,List.append_assoc]
  show enP room (5 :: (bsOf (bytesN n 8) ++ r)) = _
  rw [en_long room (fun h=>hr ⟨rfl,h⟩),if_neg (by rw [List.length_append];omega),List.take_left' l8,List.drop_left' l8,num8 n hn]
 ·obtain rfl : s = ⟨#[]⟩:=e4.resolve_left (by omega)
  obtain rfl : n = 0:=by omega
  obtain rfl : b = 0:=by omega
  have l2 : (bsOf (bytesN a 2)).length = 2:=by rw [bsOf_len,bytesN_len]
  rw [enc_one (t:=7) 0 a 0 rfl,bsOf_app,show bsOf [7 % 256] = [7] from rfl,List.append_assoc]
  show enP room (7 :: (bsOf (bytesN a 2) ++ r)) = _
  rw [en_class,if_neg (by rw [List.length_append];omega),List.take_left' l2,List.drop_left' l2,num2 a (by omega)]
 ·obtain rfl : s = ⟨#[]⟩:=e4.resolve_left (by omega)
  obtain rfl : n = 0:=by omega
  have l2 : (bsOf (bytesN a 2)).length = 2:=by rw [bsOf_len,bytesN_len]
  have l3 : (bsOf (bytesN b 2)).length = 2:=by rw [bsOf_len,bytesN_len]
  have l4 : (bsOf (bytesN a 2) ++ bsOf (bytesN b 2)).length = 4:=by rw [List.length_append];omega
  rw [enc_two (t:=t) 0 a b ht,bsOf_app,bsOf_app,List.append_assoc,List.append_assoc]
  have key : ∀ x : UInt8,(x.toNat : Int) = t → enP room ([x] ++ (bsOf (bytesN a 2) ++ (bsOf (bytesN b 2) ++ r))) = .ok (⟨t,⟨#[]⟩,0,a,b⟩,r):=by
   intro x hx
   show enP room (x :: (bsOf (bytesN a 2) ++ (bsOf (bytesN b 2) ++ r))) = _
   rw [en_two room x _ (by omega),if_neg (by simp only [List.length_append];omega),List.take_left' l2,List.drop_left' l2,List.take_left' l3,← List.append_assoc,List.drop_left' l4,num2 a (by omega),num2 b (by omega),hx]
  exact key _ (u8_val (z:=t % 256) (by omega) |>.trans (by omega))
theorem u8_is {x : UInt8} {k : Nat} (h : (x.toNat : Int) = k) (_ : k < 256) : x = UInt8.ofNat k:=by
 have e : x.toNat = k:=by omega
 rw [← e]
 simp
theorem en_forth {room : Int} {bs r : List UInt8} {c : Cp.C} (h : enP room bs = .ok (c,r)) : ceOut c = 0 ∧ I6 c.n ∧ bs = bsOf (encE c) ++ r ∧ ¬ (c.t = 5 ∧ room < 2):=by
 cases bs with
 | nil=>cases h
 | cons x q =>
  have hk : Cp.knownB (x.toNat : Int) = true ∧ ¬ ((x.toNat : Int) = 5 ∧ room < 2):=by
   unfold enP at h
   dsimp only at h
   by_cases hb : Cp.knownB (x.toNat : Int) = false ∨ ((x.toNat : Int) = 5 ∧ room < 2)
   ·rw [if_pos hb] at h;cases h
   ·refine ⟨?_,fun e=>hb (.inr e)⟩
    cases he : Cp.knownB (x.toNat : Int) with
    | true=>rfl
    | false=>exact absurd (.inl he) hb
  obtain ⟨hk,hr⟩:=hk
  have z6 : I6 0:=by unfold I6;omega
  rcases of_decide_eq_true hk with hx|hx|hx|hx|hx
  ·obtain rfl : x = 1:=u8_is (k:=1) hx (by decide)
   rw [en_utf] at h
   cases htx : txP 2 q with
   | error e=>rw [htx] at h;cases h
   | ok y =>
    obtain ⟨s,r1⟩:=y
    rw [htx] at h
    dsimp only at h
    obtain ⟨rfl,rfl⟩:=Prod.mk.inj (Except.ok.inj h)
    unfold txP at htx
    by_cases g1 : q.length < 2
    ·rw [if_pos g1] at htx;cases htx
    ·rw [if_neg g1] at htx
     have l2 : (q.take 2).length = 2:=by rw [List.length_take];omega
     have hnr:=num2_range l2
     obtain ⟨N,hN⟩ : ∃ N : Nat,Cp.numI (q.take 2) = N:=⟨(Cp.numI (q.take 2)).toNat,by omega⟩
     have hb2:=back2 l2
     rw [hN] at htx hb2
     by_cases g2 : (255 : Int) < N
     ·rw [if_pos g2] at htx;cases htx
     ·rw [if_neg g2] at htx
      by_cases g3 : ((q.drop 2).length : Int) < N
      ·rw [if_pos g3] at htx;cases htx
      ·rw [if_neg g3,Int.toNat_natCast] at htx
       by_cases g4 : Cp.plainB ((q.drop 2).take N) = true
       ·rw [if_pos g4] at htx
        obtain ⟨rfl,rfl⟩:=Prod.mk.inj (Except.ok.inj htx)
        have hsz : (⟨((q.drop 2).take N).toArray⟩ : ByteArray).size = N:=by
         show ((q.drop 2).take N).toArray.size = N
         rw [List.size_toArray,List.length_take]
         omega
        have hbl : Cp.bl (⟨((q.drop 2).take N).toArray⟩ : ByteArray) = (q.drop 2).take N:=by simp [Cp.bl]
        refine ⟨ce_zero (by decide) z6 ⟨.inl rfl,.inl rfl,.inl rfl,.inl rfl⟩ (by rw [hsz];omega) (by rw [hbl];exact g4),z6,?_,hr⟩
        rw [enc_text _ 0 0 0 rfl,bsOf_app,bsOf_app,bsOf_text,hsz,hb2,hbl,show bsOf [1 % 256] = [1] from rfl]
        simp only [List.append_assoc,List.cons_append,List.nil_append]
        rw [List.take_append_drop,List.take_append_drop]
       ·rw [if_neg g4] at htx;cases htx
  ·obtain rfl : x = 3:=u8_is (k:=3) hx (by decide)
   rw [en_int] at h
   by_cases g1 : q.length < 4
   ·rw [if_pos g1] at h;cases h
   ·rw [if_neg g1] at h
    obtain ⟨rfl,rfl⟩:=Prod.mk.inj (Except.ok.inj h)
    have l4 : (q.take 4).length = 4:=by rw [List.length_take];omega
    have hb:=back4 l4
    have hw : IntKind.i32.wrap (Cp.numI (q.take 4)) = IntKind.i32.wrap (IntKind.i32.wrap (Cp.numI (q.take 4))):=by
     rw [IntKind.wrap_i32,IntKind.wrap_i32];omega
    have h6 : I6 (IntKind.i32.wrap (Cp.numI (q.take 4))):=by unfold I6;rw [IntKind.wrap_i32];omega
    refine ⟨ce_zero (by decide) h6 ⟨.inr (.inr ⟨rfl,hw⟩),.inl rfl,.inl rfl,.inr rfl⟩ (by decide) (by decide),h6,?_,hr⟩
    rw [enc_num (t:=3) _ 0 0 4 rfl,bsOf_app,hb,show bsOf [3 % 256] = [3] from rfl]
    simp
  ·obtain rfl : x = 5:=u8_is (k:=5) hx (by decide)
   rw [en_long room (fun e=>hr ⟨rfl,e⟩)] at h
   by_cases g1 : q.length < 8
   ·rw [if_pos g1] at h;cases h
   ·rw [if_neg g1] at h
    obtain ⟨rfl,rfl⟩:=Prod.mk.inj (Except.ok.inj h)
    have l8 : (q.take 8).length = 8:=by rw [List.length_take];omega
    have hb:=back8 l8
    have h6 : I6 (Cp.numI (q.take 8)):=by unfold I6;rw [Cp.numI_U,Cp.w64];omega
    refine ⟨ce_zero (by decide) h6 ⟨.inr (.inl rfl),.inl rfl,.inl rfl,.inr rfl⟩ (by decide) (by decide),h6,?_,hr⟩
    rw [enc_num (t:=5) _ 0 0 8 rfl,bsOf_app,hb,show bsOf [5 % 256] = [5] from rfl]
    simp
  ·obtain rfl : x = 7:=u8_is (k:=7) hx (by decide)
   rw [en_class] at h
   by_cases g1 : q.length < 2
   ·rw [if_pos g1] at h;cases h
   ·rw [if_neg g1] at h
    obtain ⟨rfl,rfl⟩:=Prod.mk.inj (Except.ok.inj h)
    have l2 : (q.take 2).length = 2:=by rw [List.length_take];omega
    have hb:=back2 l2
    have hnr:=num2_range l2
    refine ⟨ce_zero (by decide) z6 ⟨.inl rfl,by omega,.inl rfl,.inr rfl⟩ (by decide) (by decide),z6,?_,hr⟩
    rw [enc_one (t:=7) 0 _ 0 rfl,bsOf_app,hb,show bsOf [7 % 256] = [7] from rfl]
    simp
  ·rw [en_two room x q hx] at h
   by_cases g1 : q.length < 4
   ·rw [if_pos g1] at h;cases h
   ·rw [if_neg g1] at h
    obtain ⟨rfl,rfl⟩:=Prod.mk.inj (Except.ok.inj h)
    have l2 : (q.take 2).length = 2:=by rw [List.length_take];omega
    have l3 : ((q.drop 2).take 2).length = 2:=by rw [List.length_take,List.length_drop];omega
    have hb:=back2 l2
    have hb3:=back2 l3
    have hnr:=num2_range l2
    have hnr3:=num2_range l3
    refine ⟨ce_zero hk z6 ⟨.inl rfl,by omega,by omega,.inr rfl⟩ (by decide) (by decide),z6,?_,hr⟩
    rw [enc_two (t:=(x.toNat : Int)) 0 _ _ hx,bsOf_app,bsOf_app,hb,hb3,bsOf_one,show (x.toNat : Int) % 256 = (x.toNat : Int) by omega,u8_back]
    have e4 : q.drop 4 = (q.drop 2).drop 2:=by rw [List.drop_drop]
    rw [e4]
    simp only [List.append_assoc,List.cons_append,List.nil_append]
    rw [List.take_append_drop,List.take_append_drop]
end Go.Proofs.YtnojgiflgmnjlaaGreatDoor.L3
namespace Go.Proofs.YtnojgiflgmnjlaaGreatDoor.L3
open Go.RowKit
theorem plGo_len : ∀ {f n : Nat} {l l' : List Cp.C} {r r' : List UInt8},plGo f n l r = .ok (l',r') → l.length ≤ n + 1 → l'.length ≤ n + 1
 | 0,n,l,l',r,r',h,hl=>by
  unfold plGo at h
  obtain ⟨rfl,-⟩:=Prod.mk.inj (Except.ok.inj h)
  exact hl
 | f + 1,n,l,l',r,r',h,hl=>by
  unfold plGo at h
  by_cases h1 : l.length < n
  ·rw [if_pos h1] at h
   cases hx : enP ((n : Int) - (l.length : Int)) r with
   | error e=>rw [hx] at h;cases h
   | ok y =>
    obtain ⟨c,r1⟩:=y
    rw [hx] at h
    have h2:=(appE_len l c).2
    exact plGo_len h (by omega)
  ·rw [if_neg h1] at h
   obtain ⟨rfl,-⟩:=Prod.mk.inj (Except.ok.inj h)
   exact hl
theorem plP_len {bs r : List UInt8} {l : List Cp.C} (h : plP bs = .ok (l,r)) : l.length ≤ 4097:=by
 unfold plP at h
 by_cases h1 : bs.length < 2
 ·rw [if_pos h1] at h;cases h
 ·rw [if_neg h1] at h
  by_cases h2 : 4096 < Cp.numI (bs.take 2)
  ·rw [if_pos h2] at h;cases h
  ·rw [if_neg h2] at h
   by_cases h3 : Cp.numI (bs.take 2) = 0
   ·rw [if_pos h3] at h
    obtain ⟨rfl,-⟩:=Prod.mk.inj (Except.ok.inj h)
    simp
   ·rw [if_neg h3] at h
    have h4:=plGo_len h (by simp)
    omega
theorem tkOut_len (bs : List UInt8) : (tkOut bs).1.length ≤ 4097:=by
 unfold tkOut
 cases h : plP bs with
 | error e=>simp
 | ok y =>
  obtain ⟨l,r⟩:=y
  exact plP_len h
end Go.Proofs.YtnojgiflgmnjlaaGreatDoor.L3
namespace Go.Proofs.YtnojgiflgmnjlaaGreatDoor.L3
open Go.RowKit
def encF (l : List Cp.C) : List Int:=l.flatMap fun c=>if c.t = 0 then [] else encE c
theorem encF_app (a b : List Cp.C) : encF (a ++ b) = encF a ++ encF b:=by unfold encF;rw [List.flatMap_append]
theorem encF_one {c : Cp.C} (h : c.t ≠ 0) : encF [c] = encE c:=by
 unfold encF
 simp [h]
theorem encF_none {c : Cp.C} (h : c.t = 0) : encF [c] = []:=by
 unfold encF
 simp [h]
theorem encT_F (l : List Cp.C) : ∀ k,k ≤ l.length → encT (told l k) = encF (l.take k)
 | 0,_=>rfl
 | k + 1,hk=>by
  obtain ⟨c,hc⟩ : ∃ c,l[k]? = some c:=⟨l[k]'(by omega),List.getElem?_eq_getElem _⟩
  rw [List.take_add_one,hc,encF_app]
  show _ = _ ++ encF [c]
  by_cases h0 : c.t = 0
  ·rw [told_no hc h0,encF_none h0,List.append_nil]
   exact encT_F l k (by omega)
  ·rw [told_yes hc h0,encT_snoc,encF_one h0,encT_F l k (by omega)]
theorem putB_F (l : List Cp.C) : putB l = bytesN l.length 2 ++ encF l:=by
 unfold putB
 rw [encT_F l l.length (Nat.le_refl _),List.take_length]
theorem err_none {l : List Cp.C} {k : Nat} {c : Cp.C} (h : errAt l k = 0) (hc : l[k]? = some c) (hp : prevB l k = true) : c = Cp.C0:=by
 unfold errAt at h
 rw [hc] at h
 dsimp only at h
 rw [hp,if_pos rfl] at h
 by_cases e : c = Cp.C0
 ·exact e
 ·rw [if_neg e] at h;omega
theorem err_some {l : List Cp.C} {k : Nat} {c : Cp.C} (h : errAt l k = 0) (hc : l[k]? = some c) (hp : prevB l k = false) : ceOut c = 0 ∧ ¬ (c.t = 5 ∧ k = l.length - 1):=by
 unfold errAt at h
 rw [hc] at h
 dsimp only at h
 rw [hp,if_neg (by simp)] at h
 by_cases e : c.t = 5 ∧ k = l.length - 1
 ·rw [if_pos e] at h;omega
 ·rw [if_neg e] at h
  exact ⟨h,e⟩
theorem ce_t {c : Cp.C} (h : ceOut c = 0) : c.t ≠ 0:=by
 intro e
 have:=(ce_size h).1
 rw [e] at this
 cases this
theorem go_back {l : List Cp.C} (h : CkIs l 0) (hn : ∀ c ∈ l,I6 c.n) (r : List UInt8) : ∀ (f k : Nat),k ≤ l.length → l.length - k ≤ f → prevB l k = false ∨ k = l.length → plGo f l.length (l.take k) (bsOf (encF (l.drop k)) ++ r) = .ok (l,r)
 | 0,k,hk,hf,_=>by
  obtain rfl : k = l.length:=by omega
  rw [List.take_length,List.drop_length]
  rfl
 | f + 1,k,hk,hf,hp=>by
  unfold plGo
  by_cases hlt : k < l.length
  ·have hl : (l.take k).length = k:=by rw [List.length_take];omega
   have hp:=hp.resolve_right (by omega)
   obtain ⟨c,hc⟩ : ∃ c,l[k]? = some c:=⟨l[k],List.getElem?_eq_getElem hlt⟩
   have hall:=(ck_all.1 h).2
   obtain ⟨hce,h5⟩:=err_some (hall k hlt) hc hp
   have hd : l.drop k = c :: l.drop (k + 1):=by rw [List.drop_eq_getElem_cons hlt,show l[k] = c from Option.some.inj ((List.getElem?_eq_getElem hlt).symm.trans hc)]
   have hnx : prevB l (k + 1) = (c.t == 5):=by unfold prevB;dsimp only;rw [hc]
   rw [hl,if_pos hlt,hd,show (c :: l.drop (k + 1)) = [c] ++ l.drop (k + 1) from rfl,encF_app,encF_one (ce_t hce),bsOf_app,List.append_assoc,en_back hce (hn c (List.mem_of_getElem? hc)) (by rintro ⟨e1,e2⟩;exact h5 ⟨e1,by omega⟩)]
   dsimp only
   have ht1 : l.take (k + 1) = l.take k ++ [c]:=by rw [List.take_add_one,hc];rfl
   unfold appE
   by_cases e5 : c.t = 5
   ·rw [if_pos e5]
    have hk2 : k + 1 < l.length:=by
     rcases Nat.lt_or_ge (k + 1) l.length with h1|h1
     ·exact h1
     ·exact absurd ⟨e5,by omega⟩ h5
    obtain ⟨d,hd2⟩ : ∃ d,l[k + 1]? = some d:=⟨l[k + 1],List.getElem?_eq_getElem hk2⟩
    obtain rfl:=err_none (hall (k + 1) hk2) hd2 (by rw [hnx];simpa using e5)
    have hdr : l.drop (k + 1) = Cp.C0 :: l.drop (k + 2):=by rw [List.drop_eq_getElem_cons hk2,show l[k + 1] = Cp.C0 from Option.some.inj ((List.getElem?_eq_getElem hk2).symm.trans hd2)]
    have ht2 : l.take (k + 2) = l.take k ++ [c] ++ [Cp.C0]:=by rw [List.take_add_one,hd2,ht1];rfl
    rw [hdr,show (Cp.C0 :: l.drop (k + 2)) = [Cp.C0] ++ l.drop (k + 2) from rfl,encF_app,encF_none rfl,List.nil_append,← ht2]
    refine go_back h hn r f (k + 2) (by omega) (by omega) (.inl ?_)
    unfold prevB
    dsimp only
    rw [hd2]
    rfl
   ·rw [if_neg e5,← ht1]
    exact go_back h hn r f (k + 1) (by omega) (by omega) (.inl (by rw [hnx];simpa using e5))
  ·obtain rfl : k = l.length:=by omega
   rw [List.take_length,if_neg (by omega),List.drop_length]
   rfl
theorem pl_back {l : List Cp.C} (h : CkIs l 0) (hn : ∀ c ∈ l,I6 c.n) (r : List UInt8) : plP (bsOf (putB l) ++ r) = .ok (l,r):=by
 have hl4:=(ck_size h).1
 have l2 : (bsOf (bytesN l.length 2)).length = 2:=by rw [bsOf_len,bytesN_len]
 rw [putB_F,bsOf_app,List.append_assoc]
 unfold plP
 rw [List.take_left' l2,List.drop_left' l2,num2 l.length (by omega),if_neg (by rw [List.length_append];omega),if_neg (by omega)]
 by_cases h0 : l.length = 0
 ·obtain rfl:=List.length_eq_zero_iff.1 h0
  exact if_pos rfl
 ·rw [if_neg (by omega),Int.toNat_natCast]
  obtain ⟨c,hc⟩ : ∃ c,l[0]? = some c:=⟨l[0]'(by omega),List.getElem?_eq_getElem _⟩
  obtain rfl:=err_none ((ck_all.1 h).2 0 (by omega)) hc rfl
  have ht : l.take 1 = [Cp.C0]:=by rw [List.take_add_one,hc];rfl
  have hd : l = [Cp.C0] ++ l.drop 1:=by rw [← ht,List.take_append_drop]
  have e : encF l = encF (l.drop 1):=by
   conv=>lhs;rw [hd]
   rw [encF_app,encF_none rfl,List.nil_append]
  rw [e,← ht]
  exact go_back h hn r l.length 1 (by omega) (by omega) (.inl (by unfold prevB;dsimp only;rw [hc];rfl))
theorem hd_same {l : List Cp.C} (h : l.length ≠ 0) : hdP l = l:=by unfold hdP;rw [if_neg h]
theorem go_forth {n : Nat} (hn : n ≤ 4096) : ∀ (f : Nat) (l l' : List Cp.C) (q r : List UInt8),plGo f n l q = .ok (l',r) → CkIs l 0 → l.length ≠ 0 → l.length ≤ n → n - l.length ≤ f → (∀ c ∈ l,I6 c.n) →
  CkIs l' 0 ∧ l'.length = n ∧ (∀ c ∈ l',I6 c.n) ∧ ∃ t,l' = l ++ t ∧ q = bsOf (encF t) ++ r
 | 0,l,l',q,r,h,hc,h0,hl,hf,hi=>by
  unfold plGo at h
  obtain ⟨rfl,rfl⟩:=Prod.mk.inj (Except.ok.inj h)
  exact ⟨hc,by omega,hi,[],by simp,by rfl⟩
 | f + 1,l,l',q,r,h,hc,h0,hl,hf,hi=>by
  unfold plGo at h
  by_cases hlt : l.length < n
  ·rw [if_pos hlt] at h
   cases he : enP ((n : Int) - (l.length : Int)) q with
   | error e=>rw [he] at h;cases h
   | ok y =>
    obtain ⟨c,q'⟩:=y
    rw [he] at h
    dsimp only at h
    obtain ⟨hce,hci,hq,hr⟩:=en_forth he
    have hal : (appE l c).length ≤ n:=by
     unfold appE
     by_cases e5 : c.t = 5
     ·rw [if_pos e5,List.length_append,List.length_append]
      have : ¬ ((n : Int) - (l.length : Int) < 2):=fun e=>hr ⟨e5,e⟩
      simp only [List.length_cons,List.length_nil]
      omega
     ·rw [if_neg e5,List.length_append]
      simp only [List.length_cons,List.length_nil]
      omega
    have hck:=app_ok hc hce (by rw [hd_same h0];omega)
    rw [hd_same h0] at hck
    have hlen:=(appE_len l c).1
    have hai : ∀ x ∈ appE l c,I6 x.n:=by
     intro x hx
     have z6 : I6 Cp.C0.n:=by show I6 0;unfold I6;omega
     unfold appE at hx
     by_cases e5 : c.t = 5
     ·rw [if_pos e5] at hx
      rcases List.mem_append.1 hx with hx|hx
      ·rcases List.mem_append.1 hx with hx|hx
       ·exact hi x hx
       ·obtain rfl : x = c:=by simpa using hx
        exact hci
      ·obtain rfl : x = Cp.C0:=by simpa using hx
       exact z6
     ·rw [if_neg e5] at hx
      rcases List.mem_append.1 hx with hx|hx
      ·exact hi x hx
      ·obtain rfl : x = c:=by simpa using hx
       exact hci
    obtain ⟨g1,g2,g3,t,g4,g5⟩:=go_forth hn f (appE l c) l' q' r h hck (by omega) hal (by omega) hai
    refine ⟨g1,g2,g3,?_⟩
    unfold appE at g4
    by_cases e5 : c.t = 5
    ·rw [if_pos e5] at g4
     refine ⟨[c] ++ [Cp.C0] ++ t,by rw [g4];simp,?_⟩
     rw [encF_app,encF_app,encF_one (ce_t hce),encF_none rfl,List.append_nil,bsOf_app,List.append_assoc,← g5]
     exact hq
    ·rw [if_neg e5] at g4
     refine ⟨[c] ++ t,by rw [g4];simp,?_⟩
     rw [encF_app,encF_one (ce_t hce),bsOf_app,List.append_assoc,← g5]
     exact hq
  ·rw [if_neg hlt] at h
   obtain ⟨rfl,rfl⟩:=Prod.mk.inj (Except.ok.inj h)
   exact ⟨hc,by omega,hi,[],by simp,by rfl⟩
theorem pl_forth {bs r : List UInt8} {l : List Cp.C} (h : plP bs = .ok (l,r)) : CkIs l 0 ∧ (∀ c ∈ l,I6 c.n) ∧ bs = bsOf (putB l) ++ r:=by
 unfold plP at h
 by_cases h1 : bs.length < 2
 ·rw [if_pos h1] at h;cases h
 ·rw [if_neg h1] at h
  have l2 : (bs.take 2).length = 2:=by rw [List.length_take];omega
  have hnr:=num2_range l2
  obtain ⟨n,hn⟩ : ∃ n : Nat,Cp.numI (bs.take 2) = n:=⟨(Cp.numI (bs.take 2)).toNat,by omega⟩
  have hb2:=back2 l2
  rw [hn] at h hb2
  by_cases h2 : (4096 : Int) < n
  ·rw [if_pos h2] at h;cases h
  ·rw [if_neg h2] at h
   have ck1 : CkIs [Cp.C0] 0:=by
    refine ck_all.2 ⟨by simp,fun i hi=>?_⟩
    obtain rfl : i = 0:=by simpa using hi
    simp [errAt,prevB]
   by_cases h3 : (n : Int) = 0
   ·rw [if_pos h3] at h
    obtain ⟨rfl,rfl⟩:=Prod.mk.inj (Except.ok.inj h)
    obtain rfl : n = 0:=by omega
    refine ⟨ck_all.2 ⟨by simp,fun i hi=>absurd hi (by simp)⟩,(fun c hc=>absurd hc (by simp)),?_⟩
    rw [putB_F,show encF [] = [] from rfl,List.append_nil,show (([] : List Cp.C).length) = 0 from rfl,hb2,List.take_append_drop]
   ·rw [if_neg h3,Int.toNat_natCast] at h
    obtain ⟨g1,g2,g3,t,g4,g5⟩:=go_forth (n:=n) (by omega) n [Cp.C0] l _ r h ck1 (by simp) (by simp;omega) (by simp) (by
     intro c hc
     obtain rfl : c = Cp.C0:=by simpa using hc
     show I6 0
     unfold I6
     omega)
    refine ⟨g1,g3,?_⟩
    rw [putB_F,g2,g4,encF_app,encF_none rfl,List.nil_append,bsOf_app,hb2,List.append_assoc,← g5,List.take_append_drop]
end Go.Proofs.YtnojgiflgmnjlaaGreatDoor.L3
namespace Go.Proofs.YtnojgiflgmnjlaaGreatDoor.L3
open Go.RowKit
def BClPost (zs : List Int) (w : World) (en : Ending) (w' : World) : Prop:=∃ v,en = .returned v ∧ OwnI w' w.heap.size v zs ∧ Below w.heap.size w w'
set_option maxHeartbeats 400000 in
theorem bclone_some (zs : List Int) (ad : Addr) (cap : Nat) (w : World) (hn : zs.length ≤ 140737488355328) (hc : ∀ j u,(zs.map (Value.int .u8))[j]? = some u → w.cell? (ad.add j) = some u) : Calls Tryz.prog 129 #[.slice (some ad) zs.length cap] w (BClPost zs w):=by
 obtain ⟨i0,hi,hz0,hz1,hz2⟩:=info_parts infoB
 have hnil:=fun (W : World) (a : Option Addr) (n c : Nat)=>Lib.run_eql_slice_nil (P:=Tryz.prog) W 22 5 a n c 0 0 Tryz.underlying22
 have hlt : ∀ j u,(zs.map (Value.int .u8))[j]? = some u → (w.alloc (.cells #[] 5)).cell? (ad.add j) = some u:=fun j u h=>by
  have h2:=hc j u h
  rw [World.cell?_alloc_lt _ _ _ (World.block_lt_of_cell? w _ h2)]
  exact h2
 have HL:=hid hlt
 have hlen : (zs.map (Value.int .u8)).length = zs.length * 1:=by simp
 have HLen:=hid hlen
 have h1c : ∀ u ∈ zs.map (Value.int .u8),u.oneCell' = true:=by
  intro u hu
  rw [List.mem_map] at hu
  obtain ⟨b,-,rfl⟩:=hu
  rfl
 have H1:=hid h1c
 clear hc hlt hlen h1c
 go_enter Tryz.func129,Tryz.ntmps129
 go_wp2_with (at_builtin;go_loud (refine wpList_append_own _ rfl (.tmp 5) (.tmp 6) 22 rfl w.heap.size 5 i0 _ 1 1 Tryz.underlying22 hi hz0 hz1 hz2 rfl (by decide) _ 0 [] rfl (owns_empty (Nat.le_refl _)) ad zs.length cap (zs.map (Value.int .u8)) rfl HLen.out HL.out H1.out (by unfold maxLen;omega) (by omega) (by simp) ?_);intro v1 w1 hown1 hgrow1 _)
 go_ret
 refine ⟨_,rfl,by unfold OwnI;simpa using hown1,Kit.below_grown BLw hgrow1 (by simp) (fun k hk=>?_)⟩
 have : some w.heap.size = some k:=hk
 exact Nat.le_of_eq (Option.some.inj this)
theorem src_none (c : Nat) (w : World) : Src Tryz.prog 1 22 (.slice none 0 c) 0 [] w :=
 ⟨.inl ⟨_,Tryz.underlying22⟩,fun _=>rfl,rfl,rfl,rfl,fun u hu=>by cases hu⟩
end Go.Proofs.YtnojgiflgmnjlaaGreatDoor.L3
namespace Go.Proofs.YtnojgiflgmnjlaaGreatDoor.Kit
open Go Go.RowKit
def AbidesBox {β : Type} (b : Nat) (J : β → World → Prop) : Prop:=∀ s W v,J s W → J s (W.setCell ⟨b,0,none⟩ v)
def SeqBox {α : Type} (n : Nat) (P : Program) (g : Nat) (lb : Array Value) (encs : α → Array Value) (n₀ : Nat) (S Sp : List α → Prop) (N b : Nat) (w : World) : Prop :=
 ∀ (l : Nat) (J Jx : List α → World → Prop) (W : World),Below w.heap.size w W → AbidesFrom W.heap.size J → AbidesBox b J →
  (∀ pre x W1,J pre W1 → pre.length < N → YieldAt Fence.wide (n - 1) P l (encs x) W1 fun e W' =>
   (e = .returned (.bool true) ∧ J (pre ++ [x]) W' ∧ Below n₀ W1 W') ∨ (e = .returned (.bool false) ∧ Jx (pre ++ [x]) W')) →
  J [] W → CallsIn Fence.wide n P g (#[.func (.yield l) #[] #[]] ++ lb) W fun e W'=>(∃ v,e = .returned v) ∧ ((∃ xs,S xs ∧ J xs W') ∨ (∃ pre,Sp pre ∧ Jx pre W'))
def boxPost {α : Type} (B n₀ : Nat) (I Ix : List α → World → Prop) (xs : List α) (W : World) : Exit → Act → World → Prop
 | .normal,_,W'=>KeepsFrom B W W' ∧ Below n₀ W W' ∧ I xs W'
 | .ret,_,W'=>KeepsFrom B W W' ∧ Ix xs W'
 | _,_,_=>False
section
variable {n : Nat} {P : Program}
theorem range_box {α : Type} {g : Operand} {ps : Array Tmp} {assign body : Code} {Q : Exit → Act → World → Prop} {a : Act} {w : World}
  (h1 : 1 ≤ n) {gf : Nat} {lb : Array Value} (hg : a.eval g = .func (.func gf) #[] lb) (eg : ∀ args w,(callFunc gf args).run P w = .ok (.enter gf args) w)
  {encs : α → Array Value} {n₀ : Nat} {S Sp : List α → Prop} {N b : Nat} {w0 : World} (hseq : SeqBox (n - 1) P gf lb encs n₀ S Sp N b w0) (hn₀ : n₀ ≤ w.heap.size) (hb0 : Below w0.heap.size w0 w) (hps : ∀ x,(encs x).size = ps.size)
  (I Ix : List α → World → Prop) (hI : OwnFrom w.heap.size I) (hIx : OwnFrom w.heap.size Ix) (hIb : AbidesBox b I) (h0 : I [] w) (a₁ : α → Act)
  (hassign : ∀ (l : Nat) (x : α) (W : World) (K : Act → World → Prop),K (a₁ x) W →
   assign.wpIn (Fence.wide.inRound l) (n - 1 - 1) P (Exit.then K (fun _ _ _=>False)) { tmps:=(ps.zip (encs x)).foldl (fun t (p,v)=>t.setIfInBounds p v) a.tmps,defers:=[] } W)
  (hbody : ∀ (l : Nat) (pre : List α) (x : α) (W : World),I pre W → pre.length < N → body.wpIn (Fence.wide.inRound l) (n - 1 - 1) P (boxPost w.heap.size n₀ I Ix (pre ++ [x]) W) (a₁ x) W)
  (hdone : ∀ (D : Nat) (xs : List α) (W : World),w.heap.size ≤ D → S xs → I xs W → W.heap[D]? = some (.deferred (some [])) → Q .normal { a with defers:={ target:=.collected D,args:=#[] } :: a.defers } W)
  (hstop : ∀ (D : Nat) (pre : List α) (W : World),w.heap.size ≤ D → Sp pre → Ix pre W → W.heap[D]? = some (.deferred (some [])) → Code.ret.wpIn Fence.wide n P Q { a with defers:={ target:=.collected D,args:=#[] } :: a.defers } W) :
  (Code.rangeFunc g ps assign body).wpIn Fence.wide n P Q a w:=by
 refine wpIn_rangeFunc fun fn hfn=>?_
 let R : LoopState → Option Code → Obj:=fun st j=>.loop { state:=st,pending:=j,fn,tmps:=a.tmps,params:=ps,assign,body,defers:=w.heap.size }
 let D:=w.heap.size
 let L:=w.heap.size + 1
 let J : List α → World → Prop:=fun pre W=>I pre W ∧ W.heap[L]? = some (R .ready none) ∧ W.heap[D]? = some (.deferred (some []))
 let Jx : List α → World → Prop:=fun pre W=>Ix pre W ∧ W.heap[L]? = some (R .done (some .ret)) ∧ W.heap[D]? = some (.deferred (some []))
 have hmk : ((w.alloc (.deferred (some []))).alloc (R .ready none)).heap[L]? = some (R .ready none):=by
  have:=World.alloc_heap_new (w.alloc (.deferred (some []))) (R .ready none)
  rwa [World.size_alloc] at this
 have hmd : ((w.alloc (.deferred (some []))).alloc (R .ready none)).heap[D]? = some (.deferred (some [])):=(Below.heap_alloc _ _ _ (by simp [D])).trans (World.alloc_heap_new w _)
 have hlarge : w.heap.size ≤ ((w.alloc (.deferred (some []))).alloc (R .ready none)).heap.size:=by simp only [World.size_alloc];omega
 have stays : ∀ {A B : World} {row : Option Nat} {k : Nat} {o : Obj},A.grownBy B row → (∀ r,row = some r → ((w.alloc (.deferred (some []))).alloc (R .ready none)).heap.size ≤ r ∧ ∃ o : Obj,A.heap[r]? = some o ∧ o.isWalk = true) → A.heap[k]? = some o → o.isWalk = false → B.heap[k]? = some o :=
  fun hg' hr hk ho=>(grownBy_keeps hg' (fun r e=>(hr r e).2) hk ho).trans hk
 have fromI : ∀ {A : World} {row : Option Nat},(∀ r,row = some r → ((w.alloc (.deferred (some []))).alloc (R .ready none)).heap.size ≤ r ∧ ∃ o : Obj,A.heap[r]? = some o ∧ o.isWalk = true) → ∀ r,row = some r → w.heap.size ≤ r ∧ ∃ o : Obj,A.heap[r]? = some o ∧ o.isCells = false :=
  fun hr r e=>by obtain ⟨hB,o,ho,hw⟩:=hr r e;exact ⟨Nat.le_trans hlarge hB,o,ho,Obj.not_cells_of_walk hw⟩
 refine ⟨L,[{ target:=.collected D,args:=#[] }],(w.alloc (.deferred (some []))).alloc (R .ready none),{ target:=.fn (.func gf) lb,args:=#[.func (.yield L) #[] #[]] },(w.alloc (.deferred (some []))).alloc (R .ready none),gf,#[.func (.yield L) #[] #[]] ++ lb,(w.alloc (.deferred (some []))).alloc (R .ready none),run_enterLoop_outer _ _ _ _ _,?_,fun f' _=>trivial,?_,fun _=>h1,?_⟩
 ·simp only [resolve,hg]
  simp [go_sem]
 ·simp [invoke,go_sem,eg]
 refine (hseq L J Jx _ (hb0.trans ((((Below.refl _ w).alloc (Nat.le_refl _) _).alloc (by simp) _).mono hb0.size))
  (fun s A B row hs hg' hr=>⟨hI s A B row hs.1 hg' (fromI hr),stays hg' hr hs.2.1 rfl,stays hg' hr hs.2.2 rfl⟩)
  (fun s A v hs=>⟨hIb s A v hs.1,(KeepsOthers.setCell A _ v).same _ _ hs.2.1 rfl,(KeepsOthers.setCell A _ v).same _ _ hs.2.2 rfl⟩)
  ?_ ⟨hI.alloc _ (hI.alloc _ h0),hmk,hmd⟩).mono ?_
 ·
  rintro pre x W ⟨hi,hl,hd⟩ hlen
  have hlt : L < W.heap.size:=(Array.getElem?_eq_some_iff.1 hl).1
  refine ⟨fn,_,assign,body,run_yield (args:=encs x) hl (hps x),roundIn_of_wpIn hfn (hassign _ x W _ ⟨_,run_beginRound hl rfl,?_⟩)⟩
  have hl2 : (W.putObj L (R .busy none)).heap[L]? = some (R .busy none):=World.putObj_heap_same hlt
  have hd2 : (W.putObj L (R .busy none)).heap[D]? = some (.deferred (some [])):=(World.putObj_heap_other (by simp [D,L])).trans hd
  have hk2 : Below n₀ W (W.putObj L (R .busy none)):=belowK_b hn₀ W L _ _ (by simp [L]) hl rfl rfl
  refine wpIn_mono (hbody _ pre x _ (hI.putObj _ hi (by simp [L]) hl rfl) hlen) ?_
  have fin : ∀ (jump : Option Code) (W3 : World),KeepsFrom w.heap.size (W.putObj L (R .busy none)) W3 →
    (Instr.endRound L jump).run P W3 = .ok (.bool jump.isNone) (W3.putObj L (R (if jump.isNone then .ready else .done) jump)) ∧ W3.heap[L]? = some (R .busy none) ∧
    (W3.putObj L (R (if jump.isNone then .ready else .done) jump)).heap[L]? = some (R (if jump.isNone then .ready else .done) jump) ∧ (W3.putObj L (R (if jump.isNone then .ready else .done) jump)).heap[D]? = some (.deferred (some [])):=fun jump W3 hk3=>by
   have hl3:=hk3.same _ _ (by simp [L]) hl2 rfl
   exact ⟨run_endRound jump hl3,hl3,World.putObj_heap_same (Array.getElem?_eq_some_iff.1 hl3).1,(World.putObj_heap_other (by simp [D,L])).trans (hk3.same _ _ (Nat.le_refl _) hd2 rfl)⟩
  rintro e a3 W3 hp
  cases e with
  | normal =>
   obtain ⟨hk3,hb3,hi3⟩:=hp
   obtain ⟨hr,hl3,hl4,hd4⟩:=fin none W3 hk3
   exact ⟨_,_,hr,.inl ⟨rfl,⟨hI.putObj _ hi3 (by simp [L]) hl3 rfl,hl4,hd4⟩,(hk2.trans hb3).trans (belowK_b hn₀ W3 L _ _ (by simp [L]) hl3 rfl rfl)⟩⟩
  | ret =>
   obtain ⟨hk3,hi3⟩:=hp
   obtain ⟨hr,hl3,hl4,hd4⟩:=fin (some .ret) W3 hk3
   exact ⟨_,_,hr,.inr ⟨rfl,hIx.putObj _ hi3 (by simp [L]) hl3 rfl,hl4,hd4⟩⟩
  | exit id=>exact hp.elim
  | goto t=>exact hp.elim
  | panic ch=>exact hp.elim
  | outgrown=>exact hp.elim
 ·
  rintro e W2 ⟨⟨v,rfl⟩,(⟨xs,hS,hi,hl,hd⟩|⟨pre,hSp,hi,hl,hd⟩)⟩
  ·exact ⟨none,_,run_endLoop hl (by simp),hdone _ xs _ (Nat.le_refl _) hS (hI.putObj _ hi (by simp [L]) hl rfl) ((World.putObj_heap_other (by simp [D,L])).trans hd)⟩
  ·exact ⟨some .ret,_,run_endLoop hl (by simp),hstop _ pre _ (Nat.le_refl _) hSp (hIx.putObj _ hi (by simp [L]) hl rfl) ((World.putObj_heap_other (by simp [D,L])).trans hd)⟩
end
end Go.Proofs.YtnojgiflgmnjlaaGreatDoor.Kit
namespace Go.Proofs.YtnojgiflgmnjlaaGreatDoor.L2
open Go.RowKit
theorem hid {p : Prop} (h : p) : Hid p:=h
theorem belows {B : Nat} {a b c : World} (h : Below B a b) (k : Below b.heap.size b c) (hB : B ≤ b.heap.size) : Below B a c:=h.trans (k.mono hB)
theorem belows_drewN {B : Nat} {a b : World} (h : Below B a b) (n : Nat) : Below B a (b.drewN n):=⟨h.os,h.tape,h.output,h.size,h.block⟩
theorem bcell {W w1 : World} (hb : Below W.heap.size W w1) : (∀ b o,b < W.heap.size → w1.cell? ⟨b,o,none⟩ = W.cell? ⟨b,o,none⟩) ∧ (∀ b o,b < W.heap.size → w1.frozen? ⟨b,o,none⟩ = W.frozen? ⟨b,o,none⟩) :=
 ⟨fun b o h=>hb.cell (p:=⟨b,o,none⟩) h,fun b o h=>hb.frozen (p:=⟨b,o,none⟩) h⟩
end Go.Proofs.YtnojgiflgmnjlaaGreatDoor.L2
namespace Go.Proofs.YtnojgiflgmnjlaaGreatDoor.L2
open Go.RowKit
def kD : DataW Unit:=((DataW.map []).put (.int .u8 73) (.lit (.int .i64 1))).put (.int .u8 74) (.lit (.int .i64 2))
def KMap (w : World) (mb : Nat) : Prop:=w.ownsMap Tryz.prog 5 (plainElem (H:=Unit) Tryz.prog 3) mb 2 kD
theorem KMap.below {w w' : World} {mb n₀ : Nat} (h : KMap w mb) (hb : Below n₀ w w') (hm : mb < n₀) : KMap w' mb:=by
 obtain ⟨es,clock,h1,h2,h3,h4⟩:=h
 exact ⟨es,clock,(hb.block mb hm).trans h1,h2,h3,h4⟩
def kindOf (c : UInt8) : Int:=if c = 73 then 1 else if c = 74 then 2 else 0
def isK (c : UInt8) : Bool:=c == 73 || c == 74
theorem A.zeroInt (w : World) : (zeroValue 3).run Tryz.prog w = .ok (.int .i64 0) w:=by kernel_rfl
theorem kinds_any (w : World) : Calls Tryz.prog 172 #[] w fun e w'=>e = .returned (.map (some w.heap.size)) ∧ KMap w' w.heap.size ∧ Below w.heap.size w w' ∧ w.heap.size < w'.heap.size:=by
 have hmm:=@run_makeMap Tryz.prog
 have h0:=World.ownsMap_made w Tryz.prog 5 (plainElem (H:=Unit) Tryz.prog 3)
 obtain ⟨w1,hr1,ho1,hg1⟩:=h0.update (Maps.int_keyed Tryz.underlying5) Tryz.underlying206 (by decide) (Maps.keyOf_int_mk Tryz.underlying5 (a:=73) (by decide)) (plainElem_int Tryz.underlying3 (a:=1) (by decide))
 obtain ⟨w2,hr2,ho2,hg2⟩:=ho1.update (Maps.int_keyed Tryz.underlying5) Tryz.underlying206 (by decide) (Maps.keyOf_int_mk Tryz.underlying5 (a:=74) (by decide)) (plainElem_int Tryz.underlying3 (a:=2) (by decide))
 have HO:=hid ho2
 have hb : Below w.heap.size w w2:=((((Below.refl _ w).alloc (Nat.le_refl _) _).grown hg1 (by simp) (fun k e=>by cases e;exact Nat.le_refl _)).grown hg2 (by have:=hg1.size;simp at this;omega) (fun k e=>by cases e;exact Nat.le_refl _))
 have hz:=hg1.size
 have hz2:=hg2.size
 simp only [World.size_alloc] at hz
 clear h0 ho1 ho2 hg1 hg2
 go_enter Tryz.func172,Tryz.ntmps172
 go_wp2
 go_ret
 exact ⟨rfl,HO.out,hb,by omega⟩
theorem kD_eq : kD = .map [(.int .u8 73,.lit (.int .i64 1)),(.int .u8 74,.lit (.int .i64 2))]:=rfl
theorem kmap_look {w : World} {mb : Nat} (h : KMap w mb) (c : UInt8) :
  (Instr.lookup 206 (.map (some mb)) (.int .u8 (c.toNat : Nat)) true).run Tryz.prog w = .ok (.tuple #[.int .i64 (kindOf c),.bool (isK c)]) w:=by
 have hc:=UInt8.toNat_lt c
 have hwf : (Lit.int .u8 ((c.toNat : Nat) : Int)).wf = true:=by
  simp [Lit.wf,IntKind.min,IntKind.max,IntKind.signed,IntKind.bits];omega
 obtain ⟨v,ps,hrun,hv⟩:=World.ownsMap.look_ok h (Maps.int_keyed Tryz.underlying5) Tryz.underlying206 (A.zeroInt w) (plainElem_int Tryz.underlying3 (a:=0) (by decide)) (Maps.keyOf_int_mk Tryz.underlying5 hwf)
 obtain ⟨a,rfl,ha,-⟩:=plainElem_int_inv Tryz.underlying3 hv
 rw [hrun]
 have e1 : (73 : UInt8).toNat = 73:=rfl
 have e2 : (74 : UInt8).toNat = 74:=rfl
 have hh : a = kindOf c ∧ Maps.has kD (.int .u8 ((c.toNat : Nat) : Int)) = isK c:=by
  rw [kD_eq] at ha ⊢
  unfold kindOf isK
  by_cases h1 : c = 73
  ·subst h1
   rw [e1] at ha ⊢
   simp [DataW.atKey,Lit.sameKey] at ha
   simp [Maps.has,Lit.sameKey,ha.1]
  ·by_cases h2 : c = 74
   ·subst h2
    rw [e2] at ha ⊢
    simp [DataW.atKey,Lit.sameKey] at ha
    simp [Maps.has,Lit.sameKey,ha.1]
   ·have n1 : ¬ c.toNat = 73:=fun e=>h1 (UInt8.toNat_inj.1 (by omega))
    have n2 : ¬ c.toNat = 74:=fun e=>h2 (UInt8.toNat_inj.1 (by omega))
    have m1 : ¬ (73 : Int) = (c.toNat : Int):=by omega
    have m2 : ¬ (74 : Int) = (c.toNat : Int):=by omega
    simp [DataW.atKey,Lit.sameKey,m1,m2] at ha
    simp [Maps.has,Lit.sameKey,m1,m2,ha.1,h1,h2]
 rw [hh.1,hh.2]
end Go.Proofs.YtnojgiflgmnjlaaGreatDoor.L2
namespace Go.Proofs.YtnojgiflgmnjlaaGreatDoor.L2.Ds
abbrev bl (s : ByteArray) : List UInt8:=s.data.toList
def badC : List UInt8:=[46,59,91,47,60,62]
def goodC (c : UInt8) : Bool:=decide (33 ≤ c.toNat) && decide (c.toNat ≤ 126) && !badC.contains c
def partB (l : List UInt8) : Bool:=!l.isEmpty && l.all goodC
def cutC (c : UInt8) : List UInt8 → Option (List UInt8 × List UInt8)
 | []=>none
 | x :: l=>if x = c then some ([],l) else match cutC c l with|none=>none|some (a,b)=>some (x :: a,b)
def splitC (c : UInt8) : List UInt8 → List (List UInt8)
 | []=>[[]]
 | x :: l=>if x = c then [] :: splitC c l else match splitC c l with|[]=>[[x]]|h :: t=>(x :: h) :: t
def classB (l : List UInt8) : Bool:=(splitC 47 l).all partB
theorem splitC_ne (c : UInt8) (l : List UInt8) : splitC c l ≠ []:=by
 cases l with
 | nil=>simp [splitC]
 | cons x l =>
  unfold splitC
  split
  ·simp
  ·split <;> simp
theorem split_none {c : UInt8} : ∀ {l : List UInt8},cutC c l = none → splitC c l = [l]
 | [],_=>rfl
 | x :: l,h=>by
  unfold cutC at h
  split at h
  ·cases h
  ·rename_i hx
   have h2 : cutC c l = none:=by
    cases h3 : cutC c l with
    | none=>rfl
    | some ab=>rw [h3] at h;cases h
   unfold splitC
   rw [if_neg hx,split_none h2]
theorem split_some {c : UInt8} : ∀ {l a b : List UInt8},cutC c l = some (a,b) → splitC c l = a :: splitC c b
 | [],_,_,h=>by cases h
 | x :: l,a,b,h=>by
  unfold cutC at h
  split at h
  ·rename_i hx
   simp only [Option.some.injEq,Prod.mk.injEq] at h
   obtain ⟨rfl,rfl⟩:=h
   conv=>lhs;unfold splitC
   rw [if_pos hx]
  ·rename_i hx
   cases h3 : cutC c l with
   | none=>rw [h3] at h;cases h
   | some ab =>
    obtain ⟨a',b'⟩:=ab
    rw [h3] at h
    simp only [Option.some.injEq,Prod.mk.injEq] at h
    obtain ⟨rfl,rfl⟩:=h
    conv=>lhs;unfold splitC
    rw [if_neg hx,split_some h3]
theorem cut_eq {c : UInt8} : ∀ {l a b : List UInt8},cutC c l = some (a,b) → l = a ++ c :: b
 | [],_,_,h=>by cases h
 | x :: l,a,b,h=>by
  unfold cutC at h
  split at h
  ·rename_i hx
   simp only [Option.some.injEq,Prod.mk.injEq] at h
   obtain ⟨rfl,rfl⟩:=h
   rw [hx];rfl
  ·cases h3 : cutC c l with
   | none=>rw [h3] at h;cases h
   | some ab =>
    obtain ⟨a',b'⟩:=ab
    rw [h3] at h
    simp only [Option.some.injEq,Prod.mk.injEq] at h
    obtain ⟨rfl,rfl⟩:=h
    rw [cut_eq h3];rfl
theorem idx_none {c : UInt8} : ∀ {l : List UInt8},cutC c l = none → Lib.indexByte l c = -1
 | [],_=>rfl
 | x :: l,h=>by
  unfold cutC at h
  split at h
  ·cases h
  ·rename_i hx
   have h2 : cutC c l = none:=by
    cases h3 : cutC c l with
    | none=>rfl
    | some ab=>rw [h3] at h;cases h
   unfold Lib.indexByte
   rw [if_neg (by simpa using hx),idx_none h2]
   rfl
theorem idx_some {c : UInt8} : ∀ {l a b : List UInt8},cutC c l = some (a,b) → Lib.indexByte l c = (a.length : Nat)
 | [],_,_,h=>by cases h
 | x :: l,a,b,h=>by
  unfold cutC at h
  split at h
  ·rename_i hx
   simp only [Option.some.injEq,Prod.mk.injEq] at h
   obtain ⟨rfl,rfl⟩:=h
   unfold Lib.indexByte
   rw [if_pos (by simpa using hx)]
   rfl
  ·rename_i hx
   cases h3 : cutC c l with
   | none=>rw [h3] at h;cases h
   | some ab =>
    obtain ⟨a',b'⟩:=ab
    rw [h3] at h
    simp only [Option.some.injEq,Prod.mk.injEq] at h
    obtain ⟨rfl,rfl⟩:=h
    have ih:=idx_some h3
    unfold Lib.indexByte
    rw [if_neg (by simpa using hx),ih,if_neg (by rw [beq_iff_eq];omega)]
    simp
theorem idx_bad (c : UInt8) : (decide (0 ≤ Lib.indexByte badC c)) = badC.contains c:=(Lib.contains_iff_indexByte badC c).symm
end Go.Proofs.YtnojgiflgmnjlaaGreatDoor.L2.Ds
namespace Go.Proofs.YtnojgiflgmnjlaaGreatDoor.L2
open Go.Shelf
def Sh.lays137_ren : Go.Shelf.Ren:=⟨fun|137=>162|217=>186|266=>199|n=>n,fun|9=>9|5=>5|3=>3|n=>n,fun|n=>n⟩
theorem Sh.lays137 : Go.Proofs.Lays.n137 Tryz.prog Sh.lays137_ren:={
 mixed:=by kernel_rfl
 f137:=Tryz.func162.trans (congrArg some (by kernel_rfl))
 f217:=Tryz.func186.trans (congrArg some (by kernel_rfl))
 f266:=Tryz.func199.trans (congrArg some (by kernel_rfl))
 t3:=Tryz.underlying3
 a3:=Tryz.isAgg3
 z3:=Tryz.sizeOf3
 v3:=Tryz.zeroValue3
 t5:=Tryz.underlying5
 a5:=Tryz.isAgg5
 z5:=Tryz.sizeOf5
 v5:=Tryz.zeroValue5
 t9:=Tryz.underlying9
 a9:=Tryz.isAgg9
 z9:=Tryz.sizeOf9
 v9:=Tryz.zeroValue9 }
open Go.RowKit in
theorem Sh.strings_IndexByte (s : ByteArray) (c : Int) (w : World) :
  Calls Tryz.prog 162 #[.string s,.int .u8 c] w fun e w'=>e = .returned (.int .i64 (Lib.indexByte s.data.toList c.toNat.toUInt8)) ∧ w' = w:=Any.strings_IndexByte Sh.lays137 s c w
def Sh.lays219_ren : Go.Shelf.Ren:=⟨fun|219=>198|217=>186|225=>210|224=>211|267=>212|266=>199|314=>216|n=>n,fun|9=>9|3=>3|4=>4|5=>5|46=>107|146=>251|51=>250|n=>n,fun|1=>4|n=>n⟩
theorem Sh.lays219 : Go.Proofs.Lays.n219 Tryz.prog Sh.lays219_ren:={
 mixed:=by kernel_rfl
 f217:=Tryz.func186.trans (congrArg some (by kernel_rfl))
 f219:=Tryz.func198.trans (congrArg some (by kernel_rfl))
 f224:=Tryz.func211.trans (congrArg some (by kernel_rfl))
 f225:=Tryz.func210.trans (congrArg some (by kernel_rfl))
 f266:=Tryz.func199.trans (congrArg some (by kernel_rfl))
 f267:=Tryz.func212.trans (congrArg some (by kernel_rfl))
 f314:=Tryz.func216.trans (congrArg some (by kernel_rfl))
 t3:=Tryz.underlying3
 a3:=Tryz.isAgg3
 z3:=Tryz.sizeOf3
 v3:=Tryz.zeroValue3
 t4:=Tryz.underlying4
 a4:=Tryz.isAgg4
 z4:=Tryz.sizeOf4
 v4:=Tryz.zeroValue4
 t5:=Tryz.underlying5
 a5:=Tryz.isAgg5
 z5:=Tryz.sizeOf5
 v5:=Tryz.zeroValue5
 t9:=Tryz.underlying9
 a9:=Tryz.isAgg9
 z9:=Tryz.sizeOf9
 v9:=Tryz.zeroValue9
 t46:=Tryz.underlying107
 a46:=Tryz.isAgg107
 z46:=Tryz.sizeOf107
 v46:=Tryz.zeroValue107
 t51:=Tryz.underlying250
 a51:=Tryz.isAgg250
 z51:=Tryz.sizeOf250
 v51:=Tryz.zeroValue250
 t146:=Tryz.underlying251
 a146:=Tryz.isAgg251
 z146:=Tryz.sizeOf251
 v146:=Tryz.zeroValue251
 g1:=by kernel_rfl }
open Go.RowKit Go.Lib in
theorem Sh.stringslite_Index_one (s : ByteArray) (c : UInt8) (w : World) :
  Calls Tryz.prog 198 #[.string s,.string ⟨#[c]⟩] w fun e w'=>e = .returned (.int .i64 (Lib.indexByte s.data.toList c)) ∧ w' = w:=Any.stringslite_Index_one Sh.lays219 s c w
def Sh.lays143_ren : Go.Shelf.Ren:=⟨fun|143=>185|219=>198|217=>186|225=>210|224=>211|267=>212|266=>199|314=>216|n=>n,fun|9=>9|3=>3|4=>4|5=>5|46=>107|146=>251|51=>250|n=>n,fun|1=>4|n=>n⟩
theorem Sh.lays143 : Go.Proofs.Lays.n143 Tryz.prog Sh.lays143_ren:={
 mixed:=by kernel_rfl
 f143:=Tryz.func185.trans (congrArg some (by kernel_rfl))
 f217:=Tryz.func186.trans (congrArg some (by kernel_rfl))
 f219:=Tryz.func198.trans (congrArg some (by kernel_rfl))
 f224:=Tryz.func211.trans (congrArg some (by kernel_rfl))
 f225:=Tryz.func210.trans (congrArg some (by kernel_rfl))
 f266:=Tryz.func199.trans (congrArg some (by kernel_rfl))
 f267:=Tryz.func212.trans (congrArg some (by kernel_rfl))
 f314:=Tryz.func216.trans (congrArg some (by kernel_rfl))
 t3:=Tryz.underlying3
 a3:=Tryz.isAgg3
 z3:=Tryz.sizeOf3
 v3:=Tryz.zeroValue3
 t4:=Tryz.underlying4
 a4:=Tryz.isAgg4
 z4:=Tryz.sizeOf4
 v4:=Tryz.zeroValue4
 t5:=Tryz.underlying5
 a5:=Tryz.isAgg5
 z5:=Tryz.sizeOf5
 v5:=Tryz.zeroValue5
 t9:=Tryz.underlying9
 a9:=Tryz.isAgg9
 z9:=Tryz.sizeOf9
 v9:=Tryz.zeroValue9
 t46:=Tryz.underlying107
 a46:=Tryz.isAgg107
 z46:=Tryz.sizeOf107
 v46:=Tryz.zeroValue107
 t51:=Tryz.underlying250
 a51:=Tryz.isAgg250
 z51:=Tryz.sizeOf250
 v51:=Tryz.zeroValue250
 t146:=Tryz.underlying251
 a146:=Tryz.isAgg251
 z146:=Tryz.sizeOf251
 v146:=Tryz.zeroValue251
 g1:=by kernel_rfl }
open Go.RowKit Go.Lib in
theorem Sh.strings_Index_one (s : ByteArray) (c : UInt8) (w : World) :
  Calls Tryz.prog 185 #[.string s,.string ⟨#[c]⟩] w fun e w'=>e = .returned (.int .i64 (Lib.indexByte s.data.toList c)) ∧ w' = w:=Any.strings_Index_one Sh.lays143 s c w
end Go.Proofs.YtnojgiflgmnjlaaGreatDoor.L2
