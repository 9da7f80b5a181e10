/- Own texts for the claim, part 1. -/
import Derived.WalkKit
import Derived.Maps.AppendAt
import Derived.Deep.RegionLaw
import Derived.RegionDies
import Derived.BigCall
import Derived.Deep.QuietTactic
import Derived.BigRegion
import Derived.Lib.SliceRun
import Derived.Deep.OwnRows
import Derived.Laws.OwnMore
import Derived.Deep.WholeRow
import Derived.Test.YtfphiomhlhpphaaProg
import Derived.Maps.Own
import Derived.Maps.OwnOps
import Derived.Maps.OwnSet
import Derived.Maps.Views
import Derived.Maps.RangeWalk
import Derived.DeepKeys4
import Derived.Test.YtfphiomhlhpphaaChecked
import Derived.IntWalk
import Derived.Outline
import Derived.BigQuiet
import Derived.Deep.CutBlock
import Derived.Deep.DeepCutAuto
namespace Go.Proofs.Ytfphiomhlhpphaa
theorem BLw {B : Nat} {a b : Go.World} (h : Go.RowKit.Below B a b := by repeat' first | with_reducible exact Below.refl _ _ | with_reducible assumption | with_reducible refine belows_drewN ?_ _ | with_reducible refine Below.drew ?_ | with_reducible refine Below.setCell ?_ ?_ _ | with_reducible refine Below.alloc ?_ ?_ _ | omega | (simp; done) | (simp; omega)) : Go.RowKit.Below B a b := h
end Go.Proofs.Ytfphiomhlhpphaa
namespace Go.Proofs.Ytfphiomhlhpphaa.Pf
def M : Int:=1099511627776
def more (n k : Int) : Int:=if M - n < k then M else n + k
def Bd (n : Int) : Prop:=0 ≤ n ∧ n ≤ M
theorem more_bd {n k : Int} (h : Bd n) (hk : Bd k) : Bd (more n k):=by
 unfold Bd more M at *
 split <;> omega
theorem more_zero {k : Int} (hk : Bd k) : more 0 k = k:=by
 unfold Bd more M at *
 split <;> omega
section
variable {κ β : Type} [DecidableEq κ] (d : β)
def look : List (κ × β) → κ → β
 | [],_=>d
 | x :: l,k=>if x.1 = k then x.2 else look l k
def ix : List (κ × β) → κ → Nat
 | [],_=>0
 | x :: l,k=>if x.1 = k then 0 else ix l k + 1
def addk : List (κ × β) → κ → List (κ × β)
 | [],k=>[(k,d)]
 | x :: l,k=>if x.1 = k then x :: l else x :: addk l k
def alt : List (κ × β) → κ → (β → β) → List (κ × β)
 | [],k,g=>[(k,g d)]
 | x :: l,k,g=>if x.1 = k then (x.1,g x.2) :: l else x :: alt l k g
def keys (l : List (κ × β)) : List κ:=l.map (·.1)
variable {d}
theorem ix_le : ∀ (l : List (κ × β)) (k : κ),ix l k ≤ l.length
 | [],_=>Nat.le_refl _
 | x :: l,k=>by
  unfold ix
  split
  ·exact Nat.zero_le _
  ·exact Nat.succ_le_succ (ix_le l k)
theorem ix_at : ∀ {l : List (κ × β)} {k : κ} {i : Nat} {x : κ × β},i ≤ ix l k → l[i]? = some x → x.1 = k → ix l k = i
 | [],_,_,_,_,h,_=>by simp at h
 | y :: l,k,0,x,_,h,e=>by
  simp only [List.getElem?_cons_zero,Option.some.injEq] at h
  subst h
  unfold ix
  rw [if_pos e]
 | y :: l,k,i + 1,x,hi,h,e=>by
  unfold ix at hi ⊢
  split at hi
  ·omega
  ·rename_i hne
   rw [if_neg hne,ix_at (Nat.le_of_succ_le_succ hi) (by simpa using h) e]
theorem ix_step : ∀ {l : List (κ × β)} {k : κ} {i : Nat} {x : κ × β},i ≤ ix l k → l[i]? = some x → ¬ x.1 = k → i + 1 ≤ ix l k
 | [],_,_,_,_,h,_=>by simp at h
 | y :: l,k,0,x,_,h,e=>by
  simp only [List.getElem?_cons_zero,Option.some.injEq] at h
  subst h
  unfold ix
  rw [if_neg e]
  omega
 | y :: l,k,i + 1,x,hi,h,e=>by
  unfold ix at hi ⊢
  split at hi
  ·omega
  ·rename_i hne
   rw [if_neg hne]
   exact Nat.succ_le_succ (ix_step (Nat.le_of_succ_le_succ hi) (by simpa using h) e)
theorem look_at : ∀ {l : List (κ × β)} {k : κ},ix l k < l.length → l[ix l k]? = some (k,look d l k)
 | [],_,h=>by simp [ix] at h
 | x :: l,k,h=>by
  unfold ix look at *
  by_cases e : x.1 = k
  ·simp [e]
   rw [← e]
  ·rw [if_neg e] at h ⊢
   rw [if_neg e,List.getElem?_cons_succ]
   exact look_at (by simpa using h)
theorem look_none : ∀ {l : List (κ × β)} {k : κ},l.length ≤ ix l k → look d l k = d
 | [],_,_=>rfl
 | x :: l,k,h=>by
  unfold ix at h
  unfold look
  by_cases e : x.1 = k
  ·rw [if_pos e] at h
   simp at h
  ·rw [if_neg e] at h ⊢
   exact look_none (by simpa using h)
theorem addk_here : ∀ {l : List (κ × β)} {k : κ},ix l k < l.length → addk d l k = l
 | [],_,h=>by simp [ix] at h
 | x :: l,k,h=>by
  unfold ix at h
  unfold addk
  by_cases e : x.1 = k
  ·rw [if_pos e]
  ·rw [if_neg e] at h ⊢
   rw [addk_here (by simpa using h)]
theorem addk_new : ∀ {l : List (κ × β)} {k : κ},l.length ≤ ix l k → addk d l k = l ++ [(k,d)]
 | [],_,_=>rfl
 | x :: l,k,h=>by
  unfold ix at h
  unfold addk
  by_cases e : x.1 = k
  ·rw [if_pos e] at h
   simp at h
  ·rw [if_neg e] at h ⊢
   rw [addk_new (by simpa using h)]
   rfl
theorem addk_len (l : List (κ × β)) (k : κ) : l.length ≤ (addk d l k).length ∧ (addk d l k).length ≤ l.length + 1 ∧ ix l k < (addk d l k).length:=by
 by_cases h : ix l k < l.length
 ·rw [addk_here h]
  omega
 ·rw [addk_new (by omega),List.length_append]
  have:=ix_le l k
  simp
  omega
theorem addk_at (l : List (κ × β)) (k : κ) : (addk d l k)[ix l k]? = some (k,look d l k):=by
 by_cases h : ix l k < l.length
 ·rw [addk_here h]
  exact look_at h
 ·have h1:=ix_le l k
  have e : ix l k = l.length:=by omega
  rw [addk_new (by omega),look_none (by omega),e]
  simp
theorem alt_set : ∀ (l : List (κ × β)) (k : κ) (g : β → β),alt d l k g = (addk d l k).set (ix l k) (k,g (look d l k))
 | [],_,_=>rfl
 | x :: l,k,g=>by
  unfold alt addk ix look
  by_cases e : x.1 = k
  ·simp [e]
  ·rw [if_neg e,if_neg e,if_neg e,if_neg e,alt_set l k g,List.set_cons_succ]
theorem look_alt : ∀ (l : List (κ × β)) (k j : κ) (g : β → β),look d (alt d l k g) j = if j = k then g (look d l k) else look d l j
 | [],k,j,g=>by
  unfold alt look
  by_cases e : k = j
  ·subst e
   simp
  ·have e2 : ¬ j = k:=fun h=>e (Eq.symm h)
   simp [e,e2,look]
 | x :: l,k,j,g=>by
  unfold alt
  by_cases e : x.1 = k
  ·rw [if_pos e]
   unfold look
   dsimp only
   rw [e]
   by_cases e2 : k = j
   ·rw [if_pos e2,if_pos e2.symm,if_pos rfl]
   ·rw [if_neg e2,if_neg (fun h=>e2 h.symm),if_neg e2]
  ·rw [if_neg e]
   unfold look
   rw [look_alt l k j g,if_neg e]
   by_cases e2 : x.1 = j
   ·rw [if_pos e2,if_pos e2,if_neg (fun h=>e (e2.trans h))]
   ·rw [if_neg e2,if_neg e2]
theorem keys_addk (l : List (κ × β)) (k : κ) : keys (addk d l k) = if k ∈ keys l then keys l else keys l ++ [k]:=by
 induction l with
 | nil=>rfl
 | cons x l ih =>
  unfold addk
  by_cases e : x.1 = k
  ·rw [if_pos e,if_pos (by simp [keys,e])]
  ·rw [if_neg e]
   have h1 : keys (x :: addk d l k) = x.1 :: keys (addk d l k):=rfl
   have h2 : keys (x :: l) = x.1 :: keys l:=rfl
   rw [h1,ih,h2]
   by_cases h : k ∈ keys l
   ·rw [if_pos h,if_pos (by simp [h])]
   ·rw [if_neg h,if_neg (by simp [h];exact fun h2=>e h2.symm)]
    rfl
theorem keys_alt (l : List (κ × β)) (k : κ) (g : β → β) : keys (alt d l k g) = keys (addk d l k):=by
 induction l with
 | nil=>rfl
 | cons x l ih =>
  unfold alt addk
  by_cases e : x.1 = k
  ·rw [if_pos e,if_pos e]
   rfl
  ·rw [if_neg e,if_neg e]
   exact congrArg (x.1 :: ·) ih
theorem nodup_addk {l : List (κ × β)} (h : (keys l).Nodup) (k : κ) : (keys (addk d l k)).Nodup:=by
 rw [keys_addk]
 by_cases hk : k ∈ keys l
 ·rw [if_pos hk]
  exact h
 ·rw [if_neg hk,List.nodup_append]
  refine ⟨h,by simp,?_⟩
  intro a ha b hb e
  simp only [List.mem_singleton] at hb
  exact hk (hb ▸ e ▸ ha)
theorem nodup_alt {l : List (κ × β)} (h : (keys l).Nodup) (k : κ) (g : β → β) : (keys (alt d l k g)).Nodup:=by
 rw [keys_alt]
 exact nodup_addk h k
theorem alt_len (l : List (κ × β)) (k : κ) (g : β → β) : (alt d l k g).length = (addk d l k).length:=by
 have:=congrArg List.length (keys_alt (d:=d) l k g)
 simpa [keys] using this
theorem mem_alt : ∀ {l : List (κ × β)} {k : κ} {g : β → β} {x : κ × β},x ∈ alt d l k g → x ∈ l ∨ (x.1 = k ∧ ∃ y,(y = d ∨ (k,y) ∈ l) ∧ x.2 = g y)
 | [],k,g,x,h=>by
  simp only [alt,List.mem_singleton] at h
  exact .inr ⟨by rw [h],d,.inl rfl,by rw [h]⟩
 | y :: l,k,g,x,h=>by
  unfold alt at h
  by_cases e : y.1 = k
  ·rw [if_pos e,List.mem_cons] at h
   rcases h with h|h
   ·exact .inr ⟨by rw [h];exact e,y.2,.inr (by rw [← e];simp),by rw [h]⟩
   ·exact .inl (by simp [h])
  ·rw [if_neg e,List.mem_cons] at h
   rcases h with h|h
   ·exact .inl (by simp [h])
   ·rcases mem_alt h with h|⟨h1,z,h2,h3⟩
    ·exact .inl (by simp [h])
    ·exact .inr ⟨h1,z,by rcases h2 with h2|h2 <;> simp [h2],h3⟩
theorem mem_addk {l : List (κ × β)} {k : κ} {x : κ × β} (h : x ∈ addk d l k) : x ∈ l ∨ x = (k,d):=by
 by_cases hk : ix l k < l.length
 ·rw [addk_here hk] at h
  exact .inl h
 ·rw [addk_new (by omega),List.mem_append,List.mem_singleton] at h
  exact h
theorem look_mem : ∀ {l : List (κ × β)},(keys l).Nodup → ∀ {x : κ × β},x ∈ l → look d l x.1 = x.2
 | [],_,_,h=>by simp at h
 | y :: l,hn,x,h=>by
  have h2 : (keys (y :: l)) = y.1 :: keys l:=rfl
  rw [h2,List.nodup_cons] at hn
  unfold look
  rcases List.mem_cons.1 h with rfl|h
  ·rw [if_pos rfl]
  ·rw [if_neg (fun e=>hn.1 (by rw [e];exact List.mem_map_of_mem h))]
   exact look_mem hn.2 h
theorem look_not : ∀ {l : List (κ × β)} {k : κ},¬ k ∈ keys l → look d l k = d
 | [],_,_=>rfl
 | y :: l,k,h=>by
  have h2 : (keys (y :: l)) = y.1 :: keys l:=rfl
  rw [h2,List.mem_cons] at h
  unfold look
  rw [if_neg (fun e=>h (.inl e.symm))]
  exact look_not (fun e=>h (.inr e))
theorem ix_keys : ∀ (l : List (κ × β)) (k : κ),ix l k < l.length ↔ k ∈ keys l
 | [],k=>by simp [ix,keys]
 | x :: l,k=>by
  have h2 : (keys (x :: l)) = x.1 :: keys l:=rfl
  rw [h2,List.mem_cons,← ix_keys l k]
  by_cases e : x.1 = k
  ·rw [show ix (x :: l) k = 0 from if_pos e]
   simp [e]
  ·rw [show ix (x :: l) k = ix l k + 1 from if_neg e,List.length_cons,Nat.add_lt_add_iff_right]
   exact ⟨Or.inr,fun h=>h.resolve_left (fun h2=>e (Eq.symm h2))⟩
theorem look_filter (l : List (κ × β)) (p : κ → Bool) (k : κ) : look d (l.filter (fun x=>p x.1)) k = if p k = true then look d l k else d:=by
 induction l with
 | nil=>simp [look]
 | cons x l ih =>
  rw [List.filter_cons]
  by_cases e : x.1 = k
  ·by_cases hp : p k = true
   ·rw [if_pos (by rw [e];exact hp),if_pos hp]
    unfold look
    rw [if_pos e,if_pos e]
   ·rw [if_neg (by rw [e];exact hp),ih,if_neg hp,if_neg hp]
  ·by_cases hx : p x.1 = true
   ·rw [if_pos hx]
    unfold look
    rw [if_neg e,if_neg e,ih]
   ·rw [if_neg hx,ih]
    conv=>rhs;unfold look
    rw [if_neg e]
omit [DecidableEq κ] in
theorem nodup_filter {l : List (κ × β)} (h : (keys l).Nodup) (p : κ × β → Bool) : (keys (l.filter p)).Nodup:=by
 unfold keys at *
 exact h.sublist (List.filter_sublist.map _)
theorem look_fold (g : β → κ × β → β) (O : List (κ × β)) (hO : (keys O).Nodup) : ∀ (l : List (κ × β)) (k : κ),look d (O.foldl (fun l x=>alt d l x.1 (fun y=>g y x)) l) k = if k ∈ keys O then g (look d l k) (k,look d O k) else look d l k:=by
 induction O with
 | nil=>intro l k;simp [keys]
 | cons x O ih =>
  intro l k
  have h2 : (keys (x :: O)) = x.1 :: keys O:=rfl
  rw [h2,List.nodup_cons] at hO
  rw [List.foldl_cons,ih hO.2,look_alt,h2]
  by_cases e : k = x.1
  ·subst e
   rw [if_neg hO.1,if_pos rfl,if_pos (by simp),show look d (x :: O) x.1 = x.2 from if_pos rfl]
  ·rw [if_neg e]
   by_cases hk : k ∈ keys O
   ·rw [if_pos hk,if_pos (by simp [hk]),show look d (x :: O) k = look d O k from if_neg (fun h=>e h.symm)]
   ·rw [if_neg hk,if_neg (by simp [hk,e])]
end
abbrev Site:=Int × Int
abbrev Sn:=Int × Int
def bef (a b : Sn) : Bool:=decide (b.2 < a.2) || (decide (a.2 = b.2) && decide (a.1 < b.1))
def pos : List Sn → Sn → Nat
 | [],_=>0
 | y :: l,x=>if bef y x = true then pos l x + 1 else 0
def ins (l : List Sn) (x : Sn) : List Sn:=l.take (pos l x) ++ [x] ++ l.drop (pos l x)
def srt (l : List Sn) : List Sn:=l.foldl ins []
theorem bef_trans {a b c : Sn} (h : bef a b = true) (k : bef b c = true) : bef a c = true:=by
 unfold bef at *
 simp only [Bool.or_eq_true,Bool.and_eq_true,decide_eq_true_eq] at *
 omega
theorem bef_total {a b : Sn} (h : a.1 ≠ b.1) : bef a b = true ∨ bef b a = true:=by
 unfold bef
 simp only [Bool.or_eq_true,Bool.and_eq_true,decide_eq_true_eq]
 omega
theorem bef_asymm {a b : Sn} (h : bef a b = true) : ¬ bef b a = true:=by
 unfold bef at *
 simp only [Bool.or_eq_true,Bool.and_eq_true,decide_eq_true_eq] at *
 omega
theorem pos_le : ∀ (l : List Sn) (x : Sn),pos l x ≤ l.length
 | [],_=>Nat.le_refl _
 | y :: l,x=>by
  unfold pos
  split
  ·exact Nat.succ_le_succ (pos_le l x)
  ·exact Nat.zero_le _
theorem pos_step : ∀ {l : List Sn} {x y : Sn} {i : Nat},i ≤ pos l x → l[i]? = some y → bef y x = true → i + 1 ≤ pos l x
 | [],_,_,_,_,h,_=>by simp at h
 | z :: l,x,y,0,_,h,e=>by
  simp only [List.getElem?_cons_zero,Option.some.injEq] at h
  subst h
  unfold pos
  rw [if_pos e]
  omega
 | z :: l,x,y,i + 1,hi,h,e=>by
  unfold pos at hi ⊢
  split at hi
  ·rename_i hz
   rw [if_pos hz]
   exact Nat.succ_le_succ (pos_step (Nat.le_of_succ_le_succ hi) (by simpa using h) e)
  ·omega
theorem pos_at : ∀ {l : List Sn} {x y : Sn} {i : Nat},i ≤ pos l x → l[i]? = some y → ¬ bef y x = true → pos l x = i
 | [],_,_,_,_,h,_=>by simp at h
 | z :: l,x,y,0,_,h,e=>by
  simp only [List.getElem?_cons_zero,Option.some.injEq] at h
  subst h
  unfold pos
  rw [if_neg e]
 | z :: l,x,y,i + 1,hi,h,e=>by
  unfold pos at hi ⊢
  split at hi
  ·rename_i hz
   rw [if_pos hz,pos_at (Nat.le_of_succ_le_succ hi) (by simpa using h) e]
  ·omega
theorem ins_cons_pos {y x : Sn} {l : List Sn} (h : bef y x = true) : ins (y :: l) x = y :: ins l x:=by
 unfold ins
 rw [show pos (y :: l) x = pos l x + 1 from if_pos h]
 rfl
theorem ins_cons_neg {y x : Sn} {l : List Sn} (h : ¬ bef y x = true) : ins (y :: l) x = x :: y :: l:=by
 unfold ins
 rw [show pos (y :: l) x = 0 from if_neg h]
 rfl
theorem ins_perm (l : List Sn) (x : Sn) : (ins l x).Perm (x :: l):=by
 unfold ins
 have h : (l.take (pos l x) ++ [x] ++ l.drop (pos l x)).Perm ([x] ++ l.take (pos l x) ++ l.drop (pos l x)):=List.perm_append_comm.append_right _
 refine h.trans ?_
 rw [List.append_assoc,List.take_append_drop]
 exact List.Perm.refl _
theorem srt_go_perm : ∀ (l o : List Sn),(l.foldl ins o).Perm (o ++ l)
 | [],o=>by simp
 | x :: l,o=>by
  rw [List.foldl_cons]
  refine (srt_go_perm l (ins o x)).trans (((ins_perm o x).append_right l).trans ?_)
  exact (List.perm_middle (a:=x) (l₁:=o) (l₂:=l)).symm
theorem srt_perm (l : List Sn) : (srt l).Perm l:=srt_go_perm l []
theorem ins_len (l : List Sn) (x : Sn) : (ins l x).length = l.length + 1:=by simpa using (ins_perm l x).length_eq
theorem srt_len (l : List Sn) : (srt l).length = l.length:=(srt_perm l).length_eq
def Ord (l : List Sn) : Prop:=l.Pairwise (fun a b=>bef a b = true)
theorem ins_ord : ∀ {l : List Sn} {x : Sn},Ord l → (∀ y ∈ l,y.1 ≠ x.1) → Ord (ins l x)
 | [],x,_,_=>by simp [ins,pos,Ord]
 | y :: l,x,h,hk=>by
  have hp:=List.pairwise_cons.1 h
  by_cases e : bef y x = true
  ·rw [ins_cons_pos e]
   refine List.pairwise_cons.2 ⟨fun z hz=>?_,ins_ord hp.2 (fun z hz=>hk z (by simp [hz]))⟩
   rcases List.mem_cons.1 ((ins_perm l x).mem_iff.1 hz) with rfl|hz
   ·exact e
   ·exact hp.1 z hz
  ·rw [ins_cons_neg e]
   have e2 : bef x y = true:=by
    rcases bef_total (hk y (by simp)) with h2|h2
    ·exact absurd h2 e
    ·exact h2
   refine List.pairwise_cons.2 ⟨fun z hz=>?_,h⟩
   rcases List.mem_cons.1 hz with rfl|hz
   ·exact e2
   ·exact bef_trans e2 (hp.1 z hz)
theorem srt_go_ord : ∀ (l o : List Sn),Ord o → (keys (o ++ l)).Nodup → Ord (l.foldl ins o)
 | [],o,h,_=>h
 | x :: l,o,h,hn=>by
  rw [List.foldl_cons]
  have hk : keys (o ++ x :: l) = keys o ++ x.1 :: keys l:=by simp [keys]
  rw [hk] at hn
  refine srt_go_ord l _ (ins_ord h (fun y hy e=>?_)) ?_
  ·exact (List.nodup_append.1 hn).2.2 y.1 (List.mem_map_of_mem hy) x.1 (by simp) e
  ·have h1 : (keys (ins o x ++ l)).Perm (keys o ++ x.1 :: keys l):=by
    unfold keys
    rw [List.map_append]
    refine (((ins_perm o x).map _).append_right _).trans ?_
    exact (List.perm_middle (a:=x.1) (l₁:=o.map (·.1)) (l₂:=l.map (·.1))).symm
   exact (h1.nodup_iff).2 hn
theorem srt_ord {l : List Sn} (h : (keys l).Nodup) : Ord (srt l):=srt_go_ord l [] List.Pairwise.nil (by simpa using h)
theorem ord_det : ∀ {a b : List Sn},Ord a → Ord b → a.Perm b → a = b
 | [],b,_,_,h=>by simpa using h.symm.eq_nil
 | x :: a,[],_,_,h=>by simpa using h.eq_nil
 | x :: a,y :: b,ha,hb,h=>by
  have ha2:=List.pairwise_cons.1 ha
  have hb2:=List.pairwise_cons.1 hb
  have e : x = y:=by
   have h1 : x ∈ y :: b:=h.mem_iff.1 (by simp)
   have h2 : y ∈ x :: a:=h.mem_iff.2 (by simp)
   rcases List.mem_cons.1 h1 with h1|h1
   ·exact h1
   ·rcases List.mem_cons.1 h2 with h2|h2
    ·exact h2.symm
    ·exact absurd (ha2.1 y h2) (bef_asymm (hb2.1 x h1))
  subst e
  rw [ord_det ha2.2 hb2.2 ((List.perm_cons x).1 h)]
theorem srt_det {a b : List Sn} (hn : (keys a).Nodup) (hp : a.Perm b) : srt a = srt b:=by
 have hb : (keys b).Nodup:=((hp.map _).nodup_iff).1 hn
 exact ord_det (srt_ord hn) (srt_ord hb) ((srt_perm a).trans (hp.trans (srt_perm b).symm))
def cnt (c : List Sn × Bool) (k n : Int) : List Sn × Bool:=if k ∈ keys c.1 ∨ c.1.length < 4 then (alt 0 c.1 k (fun y=>more y n),c.2) else (c.1,true)
def kind (c : List Sn × Bool) : Int:=if c.2 = true then 3 else if c.1.length = 0 then 0 else if c.1.length = 1 then 1 else 2
end Go.Proofs.Ytfphiomhlhpphaa.Pf
namespace Go.Proofs.Ytfphiomhlhpphaa.Pf
structure St where
 en : Int → Int
 ju : Site → Int
 ca : Site → List Sn × Bool
def st0 : St:=⟨fun _=>0,fun _=>0,fun _=>([],false)⟩
def St.enter (s : St) (f : Int) : St:={ s with en:=fun g=>if g = f then more (s.en f) 1 else s.en g }
def St.back (s : St) (x : Site) : St:={ s with ju:=fun y=>if y = x then more (s.ju x) 1 else s.ju y }
def St.call (s : St) (x : Site) (k n : Int) : St:={ s with ca:=fun y=>if y = x then cnt (s.ca x) k n else s.ca y }
def St.forget (s : St) (f : Int) : St:=⟨fun g=>if g = f then 0 else s.en g,fun x=>if x.1 = f then 0 else s.ju x,fun x=>if x.1 = f then ([],false) else s.ca x⟩
def fold (c : List Sn × Bool) (l : List Sn) : List Sn × Bool:=l.foldl (fun c y=>cnt c y.1 y.2) c
def merge (c q : List Sn × Bool) : List Sn × Bool:=((fold c (srt q.1)).1,(fold c (srt q.1)).2 || q.2)
def St.add (s t : St) : St:=⟨fun g=>more (s.en g) (t.en g),fun x=>more (s.ju x) (t.ju x),fun x=>merge (s.ca x) (t.ca x)⟩
structure OkC (c : List Sn × Bool) : Prop where
 nd : (keys c.1).Nodup
 bd : ∀ y ∈ c.1,Bd y.2
 ln : c.1.length ≤ 4
structure Ok (s : St) : Prop where
 en : ∀ f,Bd (s.en f)
 ju : ∀ x,Bd (s.ju x)
 ca : ∀ x,OkC (s.ca x)
theorem bd0 : Bd 0:=by unfold Bd M;omega
theorem bd1 : Bd 1:=by unfold Bd M;omega
theorem more0 {n : Int} (h : Bd n) : more n 0 = n:=by
 unfold Bd more M at *
 split <;> omega
theorem okC0 : OkC ([],false):=⟨by simp [keys],by simp,by simp⟩
theorem okC_cnt {c : List Sn × Bool} (h : OkC c) {k n : Int} (hn : Bd n) : OkC (cnt c k n):=by
 unfold cnt
 split
 ·rename_i hk
  refine ⟨nodup_alt h.nd k _,fun y hy=>?_,?_⟩
  ·rcases mem_alt hy with hy|⟨-,z,hz,e⟩
   ·exact h.bd y hy
   ·rw [e]
    refine more_bd ?_ hn
    rcases hz with rfl|hz
    ·exact bd0
    ·exact h.bd _ hz
  ·show (alt 0 c.1 k _).length ≤ 4
   have hl:=h.ln
   rw [alt_len]
   rcases hk with hk|hk
   ·rw [addk_here ((ix_keys _ _).2 hk)]
    exact hl
   ·have:=(addk_len (d:=(0 : Int)) c.1 k).2.1
    omega
 ·exact ⟨h.nd,h.bd,h.ln⟩
theorem okC_fold : ∀ {l : List Sn} {c : List Sn × Bool},OkC c → (∀ y ∈ l,Bd y.2) → OkC (fold c l)
 | [],_,h,_=>h
 | y :: l,c,h,hl=>okC_fold (l:=l) (c:=cnt c y.1 y.2) (okC_cnt h (hl y (by simp))) (fun z hz=>hl z (by simp [hz]))
theorem okC_merge {c q : List Sn × Bool} (h : OkC c) (hq : OkC q) : OkC (merge c q):=by
 have:=okC_fold (l:=srt q.1) h (fun y hy=>hq.bd y ((srt_perm q.1).mem_iff.1 hy))
 exact ⟨this.nd,this.bd,this.ln⟩
theorem Ok.enter {s : St} (h : Ok s) (f : Int) : Ok (s.enter f):=by
 refine ⟨fun g=>?_,h.ju,h.ca⟩
 show Bd (if g = f then _ else _)
 split
 ·exact more_bd (h.en f) bd1
 ·exact h.en g
theorem Ok.back {s : St} (h : Ok s) (x : Site) : Ok (s.back x):=by
 refine ⟨h.en,fun y=>?_,h.ca⟩
 show Bd (if y = x then _ else _)
 split
 ·exact more_bd (h.ju x) bd1
 ·exact h.ju y
theorem Ok.call {s : St} (h : Ok s) (x : Site) (k : Int) {n : Int} (hn : Bd n) : Ok (s.call x k n):=by
 refine ⟨h.en,h.ju,fun y=>?_⟩
 show OkC (if y = x then _ else _)
 split
 ·exact okC_cnt (h.ca x) hn
 ·exact h.ca y
theorem Ok.forget {s : St} (h : Ok s) (f : Int) : Ok (s.forget f):=by
 refine ⟨fun g=>?_,fun x=>?_,fun x=>?_⟩
 ·show Bd (if g = f then _ else _)
  split
  ·exact bd0
  ·exact h.en g
 ·show Bd (if x.1 = f then _ else _)
  split
  ·exact bd0
  ·exact h.ju x
 ·show OkC (if x.1 = f then _ else _)
  split
  ·exact okC0
  ·exact h.ca x
theorem Ok.add {s t : St} (h : Ok s) (k : Ok t) : Ok (s.add t) :=
 ⟨fun g=>more_bd (h.en g) (k.en g),fun x=>more_bd (h.ju x) (k.ju x),fun x=>okC_merge (h.ca x) (k.ca x)⟩
section
variable {κ β : Type} [DecidableEq κ] {d : β}
theorem filter_not {l : List (κ × β)} {k : κ} (h : ¬ k ∈ keys l) : l.filter (fun x=>decide (¬ x.1 = k)) = l:=by
 rw [List.filter_eq_self]
 intro x hx
 simp only [decide_eq_true_eq]
 exact fun e=>h (e ▸ List.mem_map_of_mem hx)
theorem alt_perm_filter : ∀ {l : List (κ × β)},(keys l).Nodup → ∀ (k : κ) (g : β → β),(alt d l k g).Perm ((k,g (look d l k)) :: l.filter (fun x=>decide (¬ x.1 = k)))
 | [],_,k,g=>List.Perm.refl _
 | x :: l,h,k,g=>by
  have h2 : keys (x :: l) = x.1 :: keys l:=rfl
  rw [h2,List.nodup_cons] at h
  unfold alt look
  by_cases e : x.1 = k
  ·rw [if_pos e,if_pos e,List.filter_cons,if_neg (by simpa using e),filter_not (by rw [← e];exact h.1),e]
  ·rw [if_neg e,if_neg e,List.filter_cons,if_pos (by simpa using e)]
   exact (List.Perm.cons x (alt_perm_filter h.2 k g)).trans (List.Perm.swap _ _ _)
theorem look_perm {l l' : List (κ × β)} (h : (keys l).Nodup) (hp : l.Perm l') (k : κ) : look d l k = look d l' k:=by
 have h' : (keys l').Nodup:=((hp.map _).nodup_iff).1 h
 by_cases hk : k ∈ keys l
 ·obtain ⟨x,hx,rfl⟩:=List.mem_map.1 hk
  rw [look_mem h hx,look_mem h' (hp.mem_iff.1 hx)]
 ·rw [look_not hk,look_not (fun e=>hk (((hp.map (·.1)).mem_iff).2 e))]
theorem alt_perm {l l' : List (κ × β)} (h : (keys l).Nodup) (hp : l.Perm l') (k : κ) (g : β → β) : (alt d l k g).Perm (alt d l' k g):=by
 have h' : (keys l').Nodup:=((hp.map _).nodup_iff).1 h
 refine (alt_perm_filter h k g).trans (List.Perm.trans ?_ (alt_perm_filter h' k g).symm)
 rw [look_perm h hp]
 exact List.Perm.cons _ (hp.filter _)
end
def EqC (c c' : List Sn × Bool) : Prop:=c.1.Perm c'.1 ∧ c.2 = c'.2
theorem EqC.refl (c : List Sn × Bool) : EqC c c:=⟨List.Perm.refl _,rfl⟩
theorem EqC.symm {c c' : List Sn × Bool} (h : EqC c c') : EqC c' c:=⟨h.1.symm,h.2.symm⟩
theorem EqC.trans {a b c : List Sn × Bool} (h : EqC a b) (k : EqC b c) : EqC a c:=⟨h.1.trans k.1,h.2.trans k.2⟩
theorem EqC.cnt {c c' : List Sn × Bool} (h : EqC c c') (ok : OkC c) (k n : Int) : EqC (cnt c k n) (cnt c' k n):=by
 have e : (k ∈ keys c.1 ∨ c.1.length < 4) ↔ (k ∈ keys c'.1 ∨ c'.1.length < 4):=by
  rw [h.1.length_eq,show k ∈ keys c.1 ↔ k ∈ keys c'.1 from (h.1.map (·.1)).mem_iff]
 unfold Pf.cnt
 by_cases hk : k ∈ keys c.1 ∨ c.1.length < 4
 ·rw [if_pos hk,if_pos (e.1 hk)]
  exact ⟨alt_perm ok.nd h.1 k _,h.2⟩
 ·rw [if_neg hk,if_neg (fun hh=>hk (e.2 hh))]
  exact ⟨h.1,rfl⟩
theorem EqC.fold : ∀ {l : List Sn} {c c' : List Sn × Bool},EqC c c' → OkC c → (∀ y ∈ l,Bd y.2) → EqC (fold c l) (fold c' l)
 | [],_,_,h,_,_=>h
 | y :: l,c,c',h,ok,hl=>EqC.fold (l:=l) (h.cnt ok y.1 y.2) (okC_cnt ok (hl y (by simp))) (fun z hz=>hl z (by simp [hz]))
theorem EqC.srt {c c' : List Sn × Bool} (h : EqC c c') (ok : OkC c) : srt c.1 = srt c'.1:=srt_det ok.nd h.1
theorem EqC.kind {c c' : List Sn × Bool} (h : EqC c c') : kind c = kind c':=by
 unfold Pf.kind
 rw [h.2,h.1.length_eq]
theorem EqC.merge {c c' q q' : List Sn × Bool} (h : EqC c c') (ok : OkC c) (k : EqC q q') (okq : OkC q) : EqC (merge c q) (merge c' q'):=by
 have e:=EqC.fold (l:=Pf.srt q.1) h ok (fun y hy=>okq.bd y ((srt_perm q.1).mem_iff.1 hy))
 unfold Pf.merge
 rw [← k.srt okq,← k.2]
 exact ⟨e.1,by show (_ || _) = (_ || _);rw [e.2]⟩
structure Eqv (s t : St) : Prop where
 en : ∀ f,s.en f = t.en f
 ju : ∀ x,s.ju x = t.ju x
 ca : ∀ x,EqC (s.ca x) (t.ca x)
theorem Eqv.refl (s : St) : Eqv s s:=⟨fun _=>rfl,fun _=>rfl,fun _=>EqC.refl _⟩
theorem Eqv.symm {s t : St} (h : Eqv s t) : Eqv t s:=⟨fun f=>(h.en f).symm,fun x=>(h.ju x).symm,fun x=>(h.ca x).symm⟩
theorem Eqv.trans {s t u : St} (h : Eqv s t) (k : Eqv t u) : Eqv s u:=⟨fun f=>(h.en f).trans (k.en f),fun x=>(h.ju x).trans (k.ju x),fun x=>(h.ca x).trans (k.ca x)⟩
theorem Eqv.enter {s t : St} (h : Eqv s t) (f : Int) : Eqv (s.enter f) (t.enter f):=by
 refine ⟨fun g=>?_,h.ju,h.ca⟩
 show (if g = f then _ else _) = (if g = f then _ else _)
 rw [h.en,h.en]
theorem Eqv.back {s t : St} (h : Eqv s t) (x : Site) : Eqv (s.back x) (t.back x):=by
 refine ⟨h.en,fun y=>?_,h.ca⟩
 show (if y = x then _ else _) = (if y = x then _ else _)
 rw [h.ju,h.ju]
theorem Eqv.call {s t : St} (h : Eqv s t) (ok : Ok s) (x : Site) (k n : Int) : Eqv (s.call x k n) (t.call x k n):=by
 refine ⟨h.en,h.ju,fun y=>?_⟩
 show EqC (if y = x then _ else _) (if y = x then _ else _)
 split
 ·exact (h.ca x).cnt (ok.ca x) k n
 ·exact h.ca y
theorem Eqv.forget {s t : St} (h : Eqv s t) (f : Int) : Eqv (s.forget f) (t.forget f):=by
 refine ⟨fun g=>?_,fun x=>?_,fun x=>?_⟩
 ·show (if g = f then _ else _) = (if g = f then _ else _)
  rw [h.en]
 ·show (if x.1 = f then _ else _) = (if x.1 = f then _ else _)
  rw [h.ju]
 ·show EqC (if x.1 = f then _ else _) (if x.1 = f then _ else _)
  split
  ·exact EqC.refl _
  ·exact h.ca x
theorem Eqv.add {s s' t t' : St} (h : Eqv s s') (ok : Ok s) (k : Eqv t t') (okt : Ok t) : Eqv (s.add t) (s'.add t') :=
 ⟨fun g=>by show more _ _ = more _ _;rw [h.en,k.en],fun x=>by show more _ _ = more _ _;rw [h.ju,k.ju],fun x=>(h.ca x).merge (ok.ca x) (k.ca x) (okt.ca x)⟩
theorem nodup_of_keys {κ β : Type} {l : List (κ × β)} (h : (keys l).Nodup) : l.Nodup :=
 (List.pairwise_map.1 h).imp (fun hne e=>hne (by rw [e]))
theorem perm_of_mem {κ β : Type} [DecidableEq κ] [DecidableEq β] {l l' : List (κ × β)} (h : (keys l).Nodup) (h' : (keys l').Nodup) (hm : ∀ x,x ∈ l ↔ x ∈ l') : l.Perm l' :=
 (List.perm_ext_iff_of_nodup (nodup_of_keys h) (nodup_of_keys h')).2 hm
end Go.Proofs.Ytfphiomhlhpphaa.Pf
namespace Go.Proofs.Ytfphiomhlhpphaa.Kit
open Go Go.RowKit
def IsS (size : Nat) (w : World) (v : Value) (n : Nat) (xs : List Value) : Prop :=
 xs.length = n * size ∧ n ≤ 140737488355328 ∧ ((n = 0 ∧ ∃ a cap,v = .slice a 0 cap) ∨ (∃ b o cap,v = .slice (some ⟨b,o,none⟩) n cap ∧ n ≤ cap ∧ b < w.heap.size ∧ ∀ i u,xs[i]? = some u → w.cell? ⟨b,o + i,none⟩ = some u))
theorem IsS.below {size : Nat} {w w' : World} {v : Value} {n : Nat} {xs : List Value} (h : IsS size w v n xs) {B : Nat} (hb : Below B w w') (hB : w.heap.size ≤ B) : IsS size w' v n xs:=by
 refine ⟨h.1,h.2.1,?_⟩
 rcases h.2.2 with h|⟨b,o,cap,hv,hl,hlt,hc⟩
 ·exact .inl h
 ·exact .inr ⟨b,o,cap,hv,hl,Nat.lt_of_lt_of_le hlt hb.size,fun i u hi=>(hb.cell (p:=⟨b,o + i,none⟩) (by simp;omega)).trans (hc i u hi)⟩
theorem IsS.len {size : Nat} {w : World} {v : Value} {n : Nat} {xs : List Value} (h : IsS size w v n xs) : ∃ a cap,v = .slice a n cap:=by
 rcases h.2.2 with ⟨rfl,a,cap,rfl⟩|⟨b,o,cap,rfl,-⟩
 ·exact ⟨a,cap,rfl⟩
 ·exact ⟨_,cap,rfl⟩
theorem IsS.some {size : Nat} {w : World} {v : Value} {n : Nat} {xs : List Value} (h : IsS size w v n xs) (hn : 0 < n) :
  ∃ b o cap,v = .slice (Option.some ⟨b,o,none⟩) n cap ∧ n ≤ cap ∧ b < w.heap.size ∧ ∀ i u,xs[i]? = Option.some u → w.cell? ⟨b,o + i,none⟩ = Option.some u:=by
 rcases h.2.2 with ⟨rfl,_⟩|h
 ·omega
 ·exact h
theorem isS_of_owns {w : World} {base : Nat} {e : TypeId} {size : Nat} {v : Value} {n : Nat} {xs : List Value} (h : w.ownsRow base e size v n xs) (hn : n ≤ 140737488355328) : IsS size w v n xs:=by
 obtain ⟨hl,h⟩:=h
 refine ⟨hl,hn,?_⟩
 rcases h with ⟨rfl,rfl⟩|⟨g,cap,cur,rfl,hg,hh,hc1,hc2,hc3,ht⟩
 ·exact .inl ⟨rfl,none,0,rfl⟩
 ·refine .inr ⟨g,0,cap,rfl,hc1,?_,fun i u hi=>?_⟩
  ·rw [Array.getElem?_eq_some_iff] at hh;exact hh.1
  ·have hlt : i < xs.length:=by rw [List.getElem?_eq_some_iff] at hi;exact hi.1
   have : cur[i]? = Option.some u:=by
    rw [← ht,List.getElem?_take_of_lt (by omega)] at hi
    simpa using hi
   simp [World.cell?,hh,this]
theorem below_grown {B : Nat} {a w w' : World} {v : Value} (h : Below B a w) (hg : w.grownBy w' v.ownBlock) (hB : B ≤ w.heap.size) (hr : ∀ k,v.ownBlock = some k → B ≤ k) : Below B a w':=h.grown hg hB hr
theorem own_base {w : World} {base : Nat} {e : TypeId} {size : Nat} {v : Value} {n : Nat} {xs : List Value} (h : w.ownsRow base e size v n xs) : ∀ k,v.ownBlock = some k → base ≤ k:=by
 intro k hk
 rcases h.2 with ⟨rfl,-⟩|⟨g,cap,cur,rfl,hg,-⟩
 ·simp [Value.ownBlock] at hk
 ·simp [Value.ownBlock] at hk;omega
theorem owns_below {w w' : World} {base B : Nat} {e : TypeId} {size : Nat} {v : Value} {n : Nat} {xs : List Value} (h : w.ownsRow base e size v n xs) (hb : Below B w w') (hB : w.heap.size ≤ B) : w'.ownsRow base e size v n xs:=by
 obtain ⟨h1,h2⟩:=h
 refine ⟨h1,?_⟩
 rcases h2 with h2|⟨g,cap,cur,hv,hg,hh,r⟩
 ·exact .inl h2
 ·refine .inr ⟨g,cap,cur,hv,hg,?_,r⟩
  rw [hb.block g (by rw [Array.getElem?_eq_some_iff] at hh;have:=hh.1;omega)]
  exact hh
theorem flat_at {α : Type} {f : α → List Value} {s : Nat} (hf : ∀ x,(f x).length = s) : ∀ {l : List α} {k : Nat} {x : α},l[k]? = some x → ∀ j,j < s → (l.flatMap f)[k * s + j]? = (f x)[j]?
 | [],_,_,h,_,_=>by simp at h
 | a :: l,0,x,h,j,hj=>by
  simp only [List.getElem?_cons_zero,Option.some.injEq] at h
  subst h
  rw [List.flatMap_cons,List.getElem?_append_left (by rw [hf];omega)]
  simp
 | a :: l,k + 1,x,h,j,hj=>by
  rw [List.flatMap_cons,List.getElem?_append_right (by rw [hf,Nat.add_mul];omega),hf]
  rw [show (k + 1) * s + j - s = k * s + j by rw [Nat.add_mul];omega]
  exact flat_at hf (by simpa using h) j hj
theorem flat_len {α : Type} {f : α → List Value} {s : Nat} (hf : ∀ x,(f x).length = s) : ∀ l : List α,(l.flatMap f).length = l.length * s
 | []=>by simp
 | a :: l=>by rw [List.flatMap_cons,List.length_append,hf,flat_len hf l,List.length_cons,Nat.add_mul];omega
def natVals (ns : List Nat) : List Value:=ns.map fun n : Nat=>.int .i64 (n : Int)
end Go.Proofs.Ytfphiomhlhpphaa.Kit
namespace Go.Proofs.Ytfphiomhlhpphaa.Kit
open Go Go.RowKit
theorem own_lt {w : World} {base : Nat} {e : TypeId} {size : Nat} {v : Value} {n : Nat} {xs : List Value} (h : w.ownsRow base e size v n xs) : ∀ k,v.ownBlock = some k → k < w.heap.size:=by
 intro k hk
 rcases h.2 with ⟨rfl,-⟩|⟨g,cap,cur,rfl,hg,hh,-⟩
 ·simp [Value.ownBlock] at hk
 ·simp only [Value.ownBlock,Option.some.injEq] at hk
  subst hk
  rw [Array.getElem?_eq_some_iff] at hh
  exact hh.1
structure Grows (w w' : World) (v v' : Value) : Prop where
 grown : w.grownBy w' v.ownBlock
 blk : v'.ownBlock = v.ownBlock ∨ ∃ k,w.heap.size ≤ k ∧ v'.ownBlock = some k
theorem Grows.refl (w : World) (v : Value) : Grows w w v v:=⟨⟨rfl,rfl,rfl,Nat.le_refl _,fun _ _ _=>rfl⟩,.inl rfl⟩
theorem Grows.trans {a b c : World} {u v x : Value} (h : Grows a b u v) (k : Grows b c v x) : Grows a c u x:=by
 refine ⟨⟨k.grown.os.trans h.grown.os,k.grown.tape.trans h.grown.tape,k.grown.output.trans h.grown.output,Nat.le_trans h.grown.size k.grown.size,fun i hi hne=>?_⟩,?_⟩
 ·have h2 : some i ≠ v.ownBlock:=by
   rcases h.blk with e|⟨j,hj,e⟩
   ·rw [e];exact hne
   ·rw [e];intro e2;have:=Option.some.inj e2;omega
  exact (k.grown.block i (Nat.lt_of_lt_of_le hi h.grown.size) h2).trans (h.grown.block i hi hne)
 ·rcases k.blk with e|⟨j,hj,e⟩
  ·rw [e];exact h.blk
  ·exact .inr ⟨j,Nat.le_trans h.grown.size hj,e⟩
theorem Grows.below {a b c : World} {u v : Value} (h : Grows a b u v) (k : Below b.heap.size b c) : Grows a c u v :=
 ⟨⟨k.os.trans h.grown.os,k.tape.trans h.grown.tape,k.output.trans h.grown.output,Nat.le_trans h.grown.size k.size,fun i hi hne=>(k.block i (Nat.lt_of_lt_of_le hi h.grown.size)).trans (h.grown.block i hi hne)⟩,h.blk⟩
theorem Grows.cell {w w' : World} {v v' : Value} (h : Grows w w' v v') {b : Nat} (hb : b < w.heap.size) (hne : ∀ k,v.ownBlock = some k → k ≠ b) (o : Nat) : w'.cell? ⟨b,o,none⟩ = w.cell? ⟨b,o,none⟩ :=
 World.cell?_of_block (h.grown.block b hb (fun e=>hne b e.symm rfl))
theorem Grows.frozen {w w' : World} {v v' : Value} (h : Grows w w' v v') {b : Nat} (hb : b < w.heap.size) (hne : ∀ k,v.ownBlock = some k → k ≠ b) (o : Nat) : w'.frozen? ⟨b,o,none⟩ = w.frozen? ⟨b,o,none⟩ :=
 World.frozen?_of_block (h.grown.block b hb (fun e=>hne b e.symm rfl))
theorem Grows.to_below {B : Nat} {a w w' : World} {v v' : Value} (h : Grows w w' v v') (hb : Below B a w) (hB : B ≤ w.heap.size) (hv : ∀ k,v.ownBlock = some k → B ≤ k) : Below B a w':=hb.grown h.grown hB hv
theorem Grows.size {w w' : World} {v v' : Value} (h : Grows w w' v v') : w.heap.size ≤ w'.heap.size:=h.grown.size
end Go.Proofs.Ytfphiomhlhpphaa.Kit
namespace Go.Proofs.Ytfphiomhlhpphaa.Kit
open Go Go.RowKit
theorem step_call1 {P : Program} {ops : Array Oper} {o : Oper} {a : Act} {w : World} {K : Act → World → Prop} {Q : Exit → Act → World → Prop} {E : Prop}
  (hg : o.guard = none) (f : FuncId) (x : Operand) (t : TypeId) (hop : o.op = Op.call { callee:=Callee.value (.func f),args:=#[x],argTypes:=#[t] }) (v : Value) (hx : a.eval x = v) (hcf : (callFunc f #[v]).run P w = .ok (.enter f #[v]) w)
  (R : Ending → World → Prop) (hC : Calls P f #[v] w R) (hR : ∀ e w',R e w' → ∃ u,e = .returned u ∧ K (a.put o.dst u) w') :
  if Region.wanted o (yielded ops a.tmps) = true then Oper.wp P o a w K Q else E:=by
 have hw : Region.wanted o (yielded ops a.tmps) = true:=by simp [Region.wanted,hg]
 rw [if_pos hw]
 have hrun : (execOp a.eval o).run P w = .ok (.enter f #[v]) w:=by
  cases o
  simp only at hop
  subst hop hx
  rw [execOp_call_go]
  simpa using hcf
 unfold Oper.wp
 rw [hrun]
 show Calls P f #[v] w _
 refine hC.mono ?_
 intro e w' h
 obtain ⟨u,rfl,hk⟩:=hR e w' h
 exact hk
theorem step_call2 {P : Program} {ops : Array Oper} {o : Oper} {a : Act} {w : World} {K : Act → World → Prop} {Q : Exit → Act → World → Prop} {E : Prop}
  (hg : o.guard = none) (f : FuncId) (x y : Operand) (t t' : TypeId) (hop : o.op = Op.call { callee:=Callee.value (.func f),args:=#[x,y],argTypes:=#[t,t'] }) (v v' : Value) (hx : a.eval x = v) (hy : a.eval y = v') (hcf : (callFunc f #[v,v']).run P w = .ok (.enter f #[v,v']) w)
  (R : Ending → World → Prop) (hC : Calls P f #[v,v'] w R) (hR : ∀ e w',R e w' → ∃ u,e = .returned u ∧ K (a.put o.dst u) w') :
  if Region.wanted o (yielded ops a.tmps) = true then Oper.wp P o a w K Q else E:=by
 have hw : Region.wanted o (yielded ops a.tmps) = true:=by simp [Region.wanted,hg]
 rw [if_pos hw]
 have hrun : (execOp a.eval o).run P w = .ok (.enter f #[v,v']) w:=by
  cases o
  simp only at hop
  subst hop hx hy
  rw [execOp_call_go]
  simpa using hcf
 unfold Oper.wp
 rw [hrun]
 show Calls P f #[v,v'] w _
 refine hC.mono ?_
 intro e w' h
 obtain ⟨u,rfl,hk⟩:=hR e w' h
 exact hk
theorem step_append_own {P : Program} {ops : Array Oper} {o : Oper} {a : Act} {w : World} {K : Act → World → Prop} {Q : Exit → Act → World → Prop} {E : Prop}
  (hg : o.guard = none) (s x : Operand) (t : TypeId) (hop : o.op = Op.call { callee:=Callee.builtin Builtin.append,args:=#[s,x],argTypes:=#[t,t] })
  (base : Nat) (e : TypeId) (i : TypeInfo) (z : Value) (size bytes : Nat) (ht : P.underlying t = some (.slice e)) (hi : P.info? e = some i) (hz : i.zero = some z)
  (hsize : i.size = size) (hby : i.bytes = bytes) (hzs : z.cells.size = size) (hsz : 0 < size)
  (v : Value) (n : Nat) (xs : List Value) (hs : a.eval s = v) (hown : w.ownsRow base e size v n xs)
  (ad : Addr) (m c : Nat) (news : List Value) (hx : a.eval x = .slice (some ad) m c) (hl : news.length = m * size) (hnews : ∀ j u,news[j]? = some u → w.cell? (ad.add j) = some u) (h1 : ∀ u ∈ news,u.oneCell' = true)
  (h63 : n + m ≤ maxLen) (hbytes : (n + m) * bytes ≤ 140737488355328) (hbase : base ≤ w.heap.size)
  (hK : ∀ v' w',w'.ownsRow base e size v' (n + m) (xs ++ news) → w.grownBy w' v.ownBlock → (v'.ownBlock = v.ownBlock ∨ v'.ownBlock = some w.heap.size) → K (a.put o.dst v') w') :
  if Region.wanted o (yielded ops a.tmps) = true then Oper.wp P o a w K Q else E:=by
 have hw : Region.wanted o (yielded ops a.tmps) = true:=by simp [Region.wanted,hg]
 rw [if_pos hw]
 obtain ⟨v',w',hr,h2,h3,-,h5⟩:=run_append_own_at (P:=P) w base t o.type e i z size bytes ht hi hz hsize hby hzs hsz v n xs hown ad m c news hl hnews h1 h63 hbytes hbase
 unfold Oper.wp execOp
 simp only [hop,resolve,invoke,builtin,Sem.run_bind,Sem.run_pure,Result.andThen_ok,List.map_toArray,List.map_cons,List.map_nil,hs,hx,hr]
 exact hK _ _ h2 h3 h5
end Go.Proofs.Ytfphiomhlhpphaa.Kit
namespace Go.Proofs.Ytfphiomhlhpphaa
open Go Go.RowKit
open Kit (natVals)
theorem hid {p : Prop} (h : p) : Hid p:=h
theorem belows {B : Nat} {a b c : World} (h : Below B a b) (k : Below b.heap.size b c) (hB : B ≤ b.heap.size) : Below B a c:=h.trans (k.mono hB)
theorem belows_drewN {B : Nat} {a b : World} (h : Below B a b) (n : Nat) : Below B a (b.drewN n):=⟨h.os,h.tape,h.output,h.size,h.block⟩
structure Chg (S : Nat → Prop) (w w' : World) : Prop where
 os : w'.os = w.os
 tape : w'.tape = w.tape
 output : w'.output = w.output
 size : w.heap.size ≤ w'.heap.size
 block : ∀ k,k < w.heap.size → ¬ S k → w'.heap[k]? = w.heap[k]?
section
variable {S T : Nat → Prop} {a b c w w' : World}
theorem Chg.refl (S : Nat → Prop) (w : World) : Chg S w w:=⟨rfl,rfl,rfl,Nat.le_refl _,fun _ _ _=>rfl⟩
theorem Chg.trans (h : Chg S a b) (k : Chg T b c) (hT : ∀ i,T i → S i ∨ a.heap.size ≤ i) : Chg S a c :=
 ⟨k.os.trans h.os,k.tape.trans h.tape,k.output.trans h.output,Nat.le_trans h.size k.size,fun i hi hs =>
  (k.block i (Nat.lt_of_lt_of_le hi h.size) (fun ht=>by rcases hT i ht with h1|h1;exact hs h1;omega)).trans (h.block i hi hs)⟩
theorem Chg.mono (h : Chg S a b) (hs : ∀ i,i < a.heap.size → S i → T i) : Chg T a b:=⟨h.os,h.tape,h.output,h.size,fun i hi ht=>h.block i hi (fun e=>ht (hs i hi e))⟩
theorem Chg.of_below (h : Below w.heap.size w w') : Chg S w w':=⟨h.os,h.tape,h.output,h.size,fun k hk _=>h.block k hk⟩
theorem Chg.below (h : Chg S a b) (k : Below b.heap.size b c) : Chg S a c:=h.trans (Chg.of_below (S:=fun _=>False) k) (fun _ e=>e.elim)
theorem Chg.of_grown {row : Option Nat} (h : w.grownBy w' row) (hr : ∀ k,row = some k → S k) : Chg S w w' :=
 ⟨h.os,h.tape,h.output,h.size,fun k hk hs=>h.block k hk (fun e=>hs (hr k e.symm))⟩
theorem Chg.grown {row : Option Nat} (h : Chg S a b) (k : b.grownBy c row) (hr : ∀ k,row = some k → S k ∨ a.heap.size ≤ k) : Chg S a c :=
 h.trans (Chg.of_grown (S:=fun i=>row = some i) k (fun _ e=>e)) (fun i e=>hr i e)
theorem Chg.alloc (h : Chg S a b) (o : Obj) : Chg S a (b.alloc o):=h.below ((Below.refl _ _).alloc (Nat.le_refl _) _)
theorem Chg.drew (h : Chg S a b) : Chg S a b.drew:=h.below (Below.drew (Below.refl _ _))
theorem Chg.set (h : Chg S a b) {p : Addr} (hp : S p.block ∨ a.heap.size ≤ p.block) (u : Value) : Chg S a (b.setCell p u) :=
 h.trans (T:=fun i=>i = p.block) ⟨rfl,rfl,rfl,by simp [World.setCell],fun k _ hk=>Below.heap_setCell _ _ _ _ hk⟩ (fun i e=>e ▸ hp)
theorem Chg.to_below {B : Nat} (h : Chg S w w') (hS : ∀ k,S k → B ≤ k) (hB : B ≤ w.heap.size) : Below B w w' :=
 ⟨h.os,h.tape,h.output,h.size,fun k hk=>h.block k (by omega) (fun e=>by have:=hS k e;omega)⟩
theorem Chg.cell (h : Chg S w w') {p : Addr} (hp : p.block < w.heap.size) (hs : ¬ S p.block) : w'.cell? p = w.cell? p:=World.cell?_of_block (h.block _ hp hs)
theorem owns_chg {base : Nat} {e : TypeId} {size : Nat} {v : Value} {n : Nat} {xs : List Value} (h : w.ownsRow base e size v n xs) (hc : Chg S w w') (hs : ∀ k,v.ownBlock = some k → ¬ S k) : w'.ownsRow base e size v n xs:=by
 refine ⟨h.1,?_⟩
 rcases h.2 with h2|⟨g,cap,cur,rfl,hg,hh,k⟩
 ·exact .inl h2
 ·exact .inr ⟨g,cap,cur,rfl,hg,(hc.block g (Array.getElem?_eq_some_iff.1 hh).1 (hs g rfl)).trans hh,k⟩
end
theorem own_unlike {w : World} {b b' : Nat} {e e' : TypeId} {s s' : Nat} {v v' : Value} {n n' : Nat} {xs xs' : List Value} (h : w.ownsRow b e s v n xs) (h' : w.ownsRow b' e' s' v' n' xs') (he : e ≠ e') : ∀ k,v.ownBlock = some k → v'.ownBlock ≠ some k:=by
 intro k hk hk'
 rcases h.2 with ⟨rfl,-⟩|⟨g,cap,cur,rfl,hg,hh,-⟩
 ·simp [Value.ownBlock] at hk
 ·rcases h'.2 with ⟨rfl,-⟩|⟨g',cap',cur',rfl,hg',hh',-⟩
  ·simp [Value.ownBlock] at hk'
  ·simp only [Value.ownBlock,Option.some.injEq] at hk hk'
   subst hk
   subst hk'
   rw [hh] at hh'
   simp only [Option.some.injEq,Obj.cells.injEq] at hh'
   exact he hh'.2.1
theorem own_unlike_box {w : World} {b : Nat} {e e' : TypeId} {s : Nat} {v : Value} {n : Nat} {xs : List Value} (h : w.ownsRow b e s v n xs) {k : Nat} {cs : Array Value} {f : Nat × Nat} (h' : w.heap[k]? = some (.cells cs e' f)) (he : e ≠ e') : v.ownBlock ≠ some k:=by
 intro hk
 rcases h.2 with ⟨rfl,-⟩|⟨g,cap,cur,rfl,hg,hh,-⟩
 ·simp [Value.ownBlock] at hk
 ·simp only [Value.ownBlock,Option.some.injEq] at hk
  subst hk
  rw [hh] at h'
  simp only [Option.some.injEq,Obj.cells.injEq] at h'
  exact he h'.2.1
theorem box_set {w : World} {b : Nat} {cs : Array Value} {T : TypeId} (h : w.heap[b]? = some (.cells cs T (0,0))) (i : Nat) (u : Value) : (w.setCell ⟨b,i,none⟩ u).heap[b]? = some (.cells (cs.setIfInBounds i u) T (0,0)):=by
 obtain ⟨hlt,hk⟩:=Array.getElem?_eq_some_iff.1 h
 show (w.heap.modify b _)[b]? = _
 rw [Array.getElem?_eq_getElem (by rw [Array.size_modify];exact hlt),Array.getElem_modify_self,hk]
 rfl
theorem set_grown (w : World) (b i : Nat) (u : Value) : w.grownBy (w.setCell ⟨b,i,none⟩ u) (some b) :=
 ⟨rfl,rfl,rfl,by simp [World.setCell],fun k _ hk=>Below.heap_setCell _ _ _ _ (fun e=>hk (by rw [e]))⟩
theorem owns_grown' {w w' : World} {base : Nat} {e : TypeId} {size : Nat} {v : Value} {n : Nat} {xs : List Value} {row : Option Nat} (h : w.ownsRow base e size v n xs) (hg : w.grownBy w' row) (hr : ∀ k,row = some k → v.ownBlock ≠ some k) : w'.ownsRow base e size v n xs :=
 owns_chg h (Chg.of_grown (S:=fun i=>row = some i) hg (fun _ e=>e)) (fun k hk e=>hr k e hk)
theorem owns_set {w : World} {base : Nat} {e : TypeId} {size g n cap : Nat} {xs : List Value} (h : w.ownsRow base e size (.slice (some ⟨g,0,none⟩) n cap) n xs) (i : Nat) (u : Value) :
  (w.setCell ⟨g,i,none⟩ u).ownsRow base e size (.slice (some ⟨g,0,none⟩) n cap) n (xs.set i u):=by
 refine ⟨by rw [List.length_set];exact h.1,?_⟩
 rcases h.2 with ⟨h2,-⟩|⟨g',cap',cur,hv,hg,hh,h1,h2,h3,h4⟩
 ·cases h2
 ·obtain ⟨e1,-,rfl⟩:=Value.slice.inj hv
  obtain rfl : g = g':=by simpa using e1
  refine .inr ⟨g,cap,cur.setIfInBounds i u,rfl,hg,box_set hh i u,h1,h2,by rw [Array.size_setIfInBounds];exact h3,?_⟩
  rw [Array.toList_setIfInBounds,← h4]
  exact List.take_set
def BX (w : World) (b : Nat) (cs : Array Value) (T : TypeId) : Prop:=w.heap[b]? = some (.cells cs T (0,0))
theorem BX.new (w : World) (cs : Array Value) (T : TypeId) : BX (w.alloc (.cells cs T)) w.heap.size cs T:=heap_alloc_new w _
theorem BX.sz {w : World} {b : Nat} {cs : Array Value} {T : TypeId} (h : BX w b cs T) : b < w.heap.size:=(Array.getElem?_eq_some_iff.1 h).1
theorem BX.chg {S : Nat → Prop} {w w' : World} {b : Nat} {cs : Array Value} {T : TypeId} (h : BX w b cs T) (hc : Chg S w w') (hs : ¬ S b) : BX w' b cs T:=(hc.block b h.sz hs).trans h
theorem BX.below {w w' : World} {b : Nat} {cs : Array Value} {T : TypeId} (h : BX w b cs T) (hb : Below w.heap.size w w') : BX w' b cs T:=(hb.block b h.sz).trans h
theorem BX.cell {w : World} {b : Nat} {cs : Array Value} {T : TypeId} (h : BX w b cs T) (j : Nat) : w.cell? ⟨b,j,none⟩ = cs[j]?:=by
 simp only [World.cell?]
 rw [show w.heap[(⟨b,j,none⟩ : Addr).block]? = _ from h]
 simp
theorem BX.cells7 {w : World} {B : Nat} {a0 a1 a2 a3 a4 a5 a6 : Value} {T : TypeId} (h : BX w B #[a0,a1,a2,a3,a4,a5,a6] T) : w.cell? ⟨B,0,none⟩ = some a0 ∧ w.cell? ⟨B,1,none⟩ = some a1 ∧ w.cell? ⟨B,2,none⟩ = some a2 ∧ w.cell? ⟨B,3,none⟩ = some a3 ∧ w.cell? ⟨B,4,none⟩ = some a4 ∧ w.cell? ⟨B,5,none⟩ = some a5 ∧ w.cell? ⟨B,6,none⟩ = some a6:=⟨h.cell 0,h.cell 1,h.cell 2,h.cell 3,h.cell 4,h.cell 5,h.cell 6⟩
theorem BX.cells8 {w : World} {B : Nat} {a0 a1 a2 a3 a4 a5 a6 a7 : Value} {T : TypeId} (h : BX w B #[a0,a1,a2,a3,a4,a5,a6,a7] T) : w.cell? ⟨B,0,none⟩ = some a0 ∧ w.cell? ⟨B,1,none⟩ = some a1 ∧ w.cell? ⟨B,2,none⟩ = some a2 ∧ w.cell? ⟨B,3,none⟩ = some a3 ∧ w.cell? ⟨B,4,none⟩ = some a4 ∧ w.cell? ⟨B,5,none⟩ = some a5 ∧ w.cell? ⟨B,6,none⟩ = some a6 ∧ w.cell? ⟨B,7,none⟩ = some a7:=⟨h.cell 0,h.cell 1,h.cell 2,h.cell 3,h.cell 4,h.cell 5,h.cell 6,h.cell 7⟩
theorem BX.frozen {w : World} {b : Nat} {cs : Array Value} {T : TypeId} (h : BX w b cs T) (j : Nat) : w.frozen? ⟨b,j,none⟩ = false:=by
 simp only [World.frozen?]
 rw [show w.heap[(⟨b,j,none⟩ : Addr).block]? = _ from h]
 simp
theorem news_of (w : World) (cs : List Value) (t : TypeId) : ∀ j u,cs[j]? = some u → (w.alloc (.cells cs.toArray t)).cell? ((⟨w.heap.size,0,none⟩ : Addr).add j) = some u:=by
 intro j u h
 have e : (⟨w.heap.size,0,none⟩ : Addr).add j = ⟨w.heap.size,j,none⟩:=by rw [Go.WideShapes.add_plain];simp
 rw [e,BX.cell (BX.new w cs.toArray t)]
 simpa using h
theorem own_form {w : World} {base : Nat} {e : TypeId} {size : Nat} {v : Value} {n : Nat} {xs : List Value} (h : w.ownsRow base e size v n xs) : ∃ a cap,v = .slice a n cap:=by
 rcases h.2 with ⟨rfl,rfl⟩|⟨g,cap,cur,rfl,-⟩
 ·exact ⟨_,_,rfl⟩
 ·exact ⟨_,_,rfl⟩
theorem infoI : (Try.prog.info? 3).map (fun i=>(i.zero,i.size,i.bytes)) = some (some (.int .i64 0),1,8):=by kernel_rfl
theorem info_parts {P : Program} {t : TypeId} {z : Option Value} {s b : Nat} (h : (P.info? t).map (fun i=>(i.zero,i.size,i.bytes)) = some (z,s,b)) : ∃ i,P.info? t = some i ∧ i.zero = z ∧ i.size = s ∧ i.bytes = b:=by
 cases hi : P.info? t with
 | none=>rw [hi] at h;simp at h
 | some i =>
  rw [hi] at h
  simp only [Option.map_some,Option.some.injEq,Prod.mk.injEq] at h
  exact ⟨i,rfl,h.1,h.2.1,h.2.2⟩
theorem Kit.owns_mono {w : World} {b b' : Nat} {e : TypeId} {size : Nat} {v : Value} {n : Nat} {xs : List Value} (h : w.ownsRow b e size v n xs) (hb : b' ≤ b) : w.ownsRow b' e size v n xs:=by
 refine ⟨h.1,?_⟩
 rcases h.2 with h2|⟨g,cap,cur,hv,hg,k⟩
 ·exact .inl h2
 ·exact .inr ⟨g,cap,cur,hv,Nat.le_trans hb hg,k⟩
end Go.Proofs.Ytfphiomhlhpphaa
namespace Go.Proofs.Ytfphiomhlhpphaa
open Go Go.RowKit
open Pf (ix addk alt keys)
theorem Pf.alt_const {κ β : Type} [DecidableEq κ] {d : β} : ∀ (l : List (κ × β)) (k : κ) (g : β → β),alt d l k g = alt d l k (fun _=>g (Pf.look d l k))
 | [],_,_=>rfl
 | x :: l,k,g=>by
  unfold alt look
  by_cases e : x.1 = k
  ·rw [if_pos e,if_pos e,if_pos e]
  ·rw [if_neg e,if_neg e,if_neg e,alt_const l k g]
theorem Pf.alt_size {κ β : Type} [DecidableEq κ] {d : β} (l : List (κ × β)) (k : κ) (g : β → β) : (alt d l k g).length = if k ∈ keys l then l.length else l.length + 1:=by
 rw [Pf.alt_len]
 by_cases h : k ∈ keys l
 ·rw [if_pos h,Pf.addk_here ((Pf.ix_keys _ _).2 h)]
 ·rw [if_neg h,Pf.addk_new (Nat.le_of_not_lt (fun e=>h ((Pf.ix_keys l k).1 e))),List.length_append]
  rfl
theorem Pf.alt_le {κ β : Type} [DecidableEq κ] {d : β} (l : List (κ × β)) (k : κ) (g : β → β) : l.length ≤ (alt d l k g).length ∧ (alt d l k g).length ≤ l.length + 1:=by
 rw [Pf.alt_size]
 split <;> omega
theorem Pf.keys_alt_mem {κ β : Type} [DecidableEq κ] {d : β} {l : List (κ × β)} {k j : κ} {g : β → β} : j ∈ keys (alt d l k g) ↔ j ∈ keys l ∨ j = k:=by
 rw [Pf.keys_alt,Pf.keys_addk]
 by_cases h : k ∈ keys l
 ·rw [if_pos h]
  exact ⟨.inl,fun e=>e.elim id (fun e=>e ▸ h)⟩
 ·rw [if_neg h,List.mem_append,List.mem_singleton]
theorem Pf.mem_keys {κ β : Type} {l : List (κ × β)} {k : κ} : k ∈ keys l ↔ ∃ x ∈ l,x.1 = k:=List.mem_map
theorem Pf.mem_look_iff {κ β : Type} [DecidableEq κ] {d : β} {l : List (κ × β)} (h : (keys l).Nodup) {k : κ} (hk : k ∈ keys l) : (k,Pf.look d l k) ∈ l:=by
 obtain ⟨x,hx,rfl⟩:=Pf.mem_keys.1 hk
 rw [Pf.look_mem h hx]
 exact hx
def R0 (v : Value) : Option (DataW Value × List MemPlace):=some (.held v,[])
structure KT (κ : Type) where
 t : TypeId
 mkv : κ → Value
 enc : κ → Lit
 ok : κ → Prop
structure KT.Is {κ : Type} (T : KT κ) : Prop where
 keyed : Maps.Keyed Try.prog T.t
 of : ∀ {x},T.ok x → keyOf Try.prog T.t (T.mkv x) = some (T.enc x)
 inj : ∀ {x y},T.ok x → T.ok y → T.enc x = T.enc y → x = y
section
variable {κ β : Type} {T : KT κ} {val : β → Value}
structure DL (T : KT κ) (val : β → Value) (D : DataW Value) (L : List (κ × β)) : Prop where
 size : Maps.size D = L.length
 nd : (keys L).Nodup
 ok : ∀ k ∈ keys L,T.ok k
 has : ∀ kl,Maps.has D kl = true → ∃ x ∈ L,kl = T.enc x.1
 at_ : ∀ x ∈ L,Maps.has D (T.enc x.1) = true ∧ ∀ z,D.atKey (T.enc x.1) z = .held (val x.2)
def MapL (T : KT κ) (val : β → Value) (w : World) (b : Nat) (L : List (κ × β)) : Prop:=∃ D : DataW Value,w.ownsMap Try.prog T.t R0 b L.length D ∧ DL T val D L
variable {w w' : World} {b : Nat} {L : List (κ × β)} {D : DataW Value}
theorem DL.new : DL T val (.map []) ([] : List (κ × β)):=⟨rfl,by simp [keys],by simp [keys],(fun kl h=>by cases h),(fun x hx=>by cases hx)⟩
theorem DL.hask [DecidableEq κ] (h : DL T val D L) (hT : T.Is) {k : κ} (hk : T.ok k) : Maps.has D (T.enc k) = decide (k ∈ keys L):=by
 by_cases hm : k ∈ keys L
 ·obtain ⟨x,hx,rfl⟩:=Pf.mem_keys.1 hm
  rw [(h.at_ x hx).1,decide_eq_true hm]
 ·rw [decide_eq_false hm,Bool.eq_false_iff]
  intro hh
  obtain ⟨x,hx,e⟩:=h.has _ hh
  have:=hT.inj hk (h.ok _ (Pf.mem_keys.2 ⟨x,hx,rfl⟩)) e
  exact hm (Pf.mem_keys.2 ⟨x,hx,this.symm⟩)
theorem DL.atk [DecidableEq κ] (h : DL T val D L) (hT : T.Is) (d : β) {k : κ} (hk : T.ok k) : D.atKey (T.enc k) (.held (val d)) = .held (val (Pf.look d L k)):=by
 by_cases hm : k ∈ keys L
 ·obtain ⟨x,hx,rfl⟩:=Pf.mem_keys.1 hm
  rw [(h.at_ x hx).2,Pf.look_mem h.nd hx]
 ·rw [Maps.atKey_of_not_has (by rw [h.hask hT hk,decide_eq_false hm]),Pf.look_not hm]
theorem DL.put [DecidableEq κ] (h : DL T val D L) (hT : T.Is) (hD : Maps.Tidy D) (d : β) {k : κ} (hk : T.ok k) (v : β) : DL T val (D.put (T.enc k) (.held (val v))) (alt d L k (fun _=>v)):=by
 have hkk : WideAt.IsKeyLit (T.enc k):=hT.keyed.key (hT.of hk)
 refine ⟨?_,Pf.nodup_alt h.nd k _,fun j hj=>?_,fun kl hkl=>?_,fun x hx=>?_⟩
 ·rw [Maps.size_put hD,h.hask hT hk,h.size,Pf.alt_size]
  by_cases hm : k ∈ keys L
  ·rw [if_pos (decide_eq_true hm),if_pos hm]
  ·rw [if_neg (by rw [decide_eq_false hm];decide),if_neg hm]
 ·rcases Pf.keys_alt_mem.1 hj with hj|rfl
  ·exact h.ok j hj
  ·exact hk
 ·by_cases e : kl = T.enc k
  ·subst e
   obtain ⟨x,hx,e⟩:=Pf.mem_keys.1 (Pf.keys_alt_mem.2 (.inr rfl) : k ∈ keys (alt d L k (fun _=>v)))
   exact ⟨x,hx,by rw [e]⟩
  ·rw [Maps.has_put_other e] at hkl
   obtain ⟨x,hx,rfl⟩:=h.has _ hkl
   obtain ⟨y,hy,e2⟩:=Pf.mem_keys.1 (Pf.keys_alt_mem.2 (.inl (Pf.mem_keys.2 ⟨x,hx,rfl⟩)) : x.1 ∈ keys (alt d L k (fun _=>v)))
   exact ⟨y,hy,by rw [e2]⟩
 ·by_cases e : x.1 = k
  ·have hl:=Pf.look_mem (d:=d) (Pf.nodup_alt h.nd k (fun _=>v)) hx
   rw [Pf.look_alt,if_pos e] at hl
   rw [e,← hl]
   exact ⟨Maps.has_put_same hD.isMap hkk _,fun z=>Maps.atKey_put_same hD.isMap hkk _ z⟩
  ·have hx2 : x ∈ L:=by
    rcases Pf.mem_alt hx with h1|⟨h1,-⟩
    ·exact h1
    ·exact absurd h1 e
   have hne : T.enc x.1 ≠ T.enc k:=fun e2=>e (hT.inj (h.ok _ (Pf.mem_keys.2 ⟨x,hx2,rfl⟩)) hk e2)
   exact ⟨(Maps.has_put_other hne _).trans (h.at_ x hx2).1,fun z=>(Maps.atKey_put_other hne _ z).trans ((h.at_ x hx2).2 z)⟩
theorem MapL.new (w : World) : MapL T val (w.alloc (.map #[] 0)) w.heap.size []:=⟨.map [],World.ownsMap_made w _ _ _,DL.new⟩
theorem MapL.keep (h : MapL T val w b L) (hb : w'.heap[b]? = w.heap[b]?) : MapL T val w' b L:=by
 obtain ⟨D,⟨es,clock,h1,h2,h3,h4⟩,hd⟩:=h
 exact ⟨D,⟨es,clock,hb.trans h1,h2,h3,h4⟩,hd⟩
theorem MapL.is (h : MapL T val w b L) : ∃ es c,w.heap[b]? = some (.map es c):=by
 obtain ⟨D,⟨es,clock,h1,-⟩,-⟩:=h
 exact ⟨es,clock,h1⟩
theorem MapL.lt (h : MapL T val w b L) : b < w.heap.size:=by
 obtain ⟨es,c,h1⟩:=h.is
 exact (Array.getElem?_eq_some_iff.1 h1).1
theorem MapL.chg {S : Nat → Prop} (h : MapL T val w b L) (hc : Chg S w w') (hs : ¬ S b) : MapL T val w' b L:=h.keep (hc.block b h.lt hs)
theorem MapL.below (h : MapL T val w b L) (hb : Below w.heap.size w w') : MapL T val w' b L:=h.keep (hb.block b h.lt)
theorem MapL.nd (h : MapL T val w b L) : (keys L).Nodup:=h.elim fun _ h=>h.2.nd
theorem MapL.ok (h : MapL T val w b L) : ∀ k ∈ keys L,T.ok k:=h.elim fun _ h=>h.2.ok
theorem MapL.look [DecidableEq κ] (h : MapL T val w b L) (hT : T.Is) {t e : TypeId} (ht : Try.prog.underlying t = some (.map T.t e)) (d : β) (hz : (zeroValue e).run Try.prog w = .ok (val d) w) {k : κ} (hk : T.ok k) :
  (Instr.lookup t (.map (some b)) (T.mkv k) false).run Try.prog w = .ok (val (Pf.look d L k)) w:=by
 obtain ⟨D,h1,h2⟩:=h
 obtain ⟨v,ps,hrun,hv⟩:=h1.lookup hT.keyed ht hz (zd:=.held (val d)) (zp:=[]) rfl (hT.of hk)
 rw [h2.atk hT d hk] at hv
 simp only [R0,Option.some.injEq,Prod.mk.injEq,DataW.held.injEq] at hv
 rw [hrun,hv.1]
theorem MapL.look_ok [DecidableEq κ] (h : MapL T val w b L) (hT : T.Is) {t e : TypeId} (ht : Try.prog.underlying t = some (.map T.t e)) (d : β) (hz : (zeroValue e).run Try.prog w = .ok (val d) w) {k : κ} (hk : T.ok k) :
  (Instr.lookup t (.map (some b)) (T.mkv k) true).run Try.prog w = .ok (.tuple #[val (Pf.look d L k),.bool (decide (k ∈ keys L))]) w:=by
 obtain ⟨D,h1,h2⟩:=h
 obtain ⟨v,ps,hrun,hv⟩:=h1.look_ok hT.keyed ht hz (zd:=.held (val d)) (zp:=[]) rfl (hT.of hk)
 rw [h2.atk hT d hk] at hv
 rw [h2.hask hT hk] at hrun
 simp only [R0,Option.some.injEq,Prod.mk.injEq,DataW.held.injEq] at hv
 rw [hrun,hv.1]
theorem MapL.len (h : MapL T val w b L) {t e : TypeId} (ht : Try.prog.underlying t = some (.map T.t e)) (ty : TypeId) : (Builtin.len_ #[t] ty #[.map (some b)]).run Try.prog w = .ok (.int .i64 (L.length : Int)) w:=by
 obtain ⟨D,h1,h2⟩:=h
 rw [← h2.size]
 exact h1.len ht ty
theorem MapL.put [DecidableEq κ] (h : MapL T val w b L) (hT : T.Is) {t e : TypeId} (ht : Try.prog.underlying t = some (.map T.t e)) (d : β) (hn : L.length < maxLen) {k : κ} (hk : T.ok k) (v : β) :
  ∃ w',(Instr.mapUpdate t (.map (some b)) (T.mkv k) (val v)).run Try.prog w = .ok () w' ∧ MapL T val w' b (alt d L k (fun _=>v)) ∧ w.grownBy w' (some b):=by
 obtain ⟨D,h1,h2⟩:=h
 obtain ⟨w',hr,⟨es,clock,q1,q2,q3,q4⟩,hg⟩:=h1.update hT.keyed ht hn (hT.of hk) (val:=val v) (d:=.held (val v)) (ps:=[]) rfl
 have hd:=h2.put hT (h1.tidy hT.keyed) d hk v
 refine ⟨w',hr,⟨_,⟨es,clock,q1,q2,?_,q4⟩,hd⟩,hg⟩
 rw [← hd.size,q4]
 simp [Maps.size,length_sorted]
def RangeL (T : KT κ) (val : β → Value) (w : World) (b r : Nat) (L done todo : List (κ × β)) : Prop:=∃ (D : DataW Value) (left : Lit → Bool) (cnt : Nat),w.ranges Try.prog T.t R0 b r L.length D left cnt ∧ DL T val D L ∧ L.Perm (done ++ todo) ∧ ∀ kl,left kl = true ↔ ∃ x ∈ todo,kl = T.enc x.1
variable {r : Nat} {done todo : List (κ × β)}
theorem RangeL.keep (h : RangeL T val w b r L done todo) (hb : w'.heap[b]? = w.heap[b]?) (hr : w'.heap[r]? = w.heap[r]?) : RangeL T val w' b r L done todo:=by
 obtain ⟨D,left,cnt,⟨es,clock,since,seen,c0,h1,h2,h3,h4,h5,h6⟩,hd⟩:=h
 exact ⟨D,left,cnt,⟨es,clock,since,seen,c0,hb.trans h1,h2,h3,h4,hr.trans h5,h6⟩,hd⟩
theorem RangeL.lts (h : RangeL T val w b r L done todo) : b < w.heap.size ∧ r < w.heap.size:=by
 obtain ⟨D,left,cnt,h1,-⟩:=h
 exact ⟨h1.owns.lt,h1.lt⟩
theorem RangeL.chg {S : Nat → Prop} (h : RangeL T val w b r L done todo) (hc : Chg S w w') (hb : ¬ S b) (hr : ¬ S r) : RangeL T val w' b r L done todo :=
 h.keep (hc.block b h.lts.1 hb) (hc.block r h.lts.2 hr)
theorem rangeLeft_keep {w w' : World} {b r : Nat} (hb : w'.heap[b]? = w.heap[b]?) (hr : w'.heap[r]? = w.heap[r]?) : w'.rangeLeft b r = w.rangeLeft b r:=by
 unfold World.rangeLeft
 rw [hb,hr]
theorem RangeL.map (h : RangeL T val w b r L done todo) : MapL T val w b L:=by
 obtain ⟨D,left,cnt,h1,h2,-⟩:=h
 exact ⟨D,h1.owns,h2⟩
theorem perm_pick {α : Type} {l a b : List α} {x : α} (h : l.Perm (a ++ b)) (hx : x ∈ b) : ∃ b',l.Perm ((a ++ [x]) ++ b') ∧ b.Perm (x :: b'):=by
 obtain ⟨s,t,rfl⟩:=List.append_of_mem hx
 refine ⟨s ++ t,h.trans ?_,List.perm_middle⟩
 rw [List.append_assoc]
 exact List.Perm.append_left a List.perm_middle
theorem RangeL.next (h : RangeL T val w b r L done todo) (hT : T.Is) (ty : TypeId) :
  (L.Perm done ∧ (Instr.next (.pointer (some ⟨r,0,none⟩)) false ty).run Try.prog w = .ok (.tuple #[.bool false]) w) ∨
  ∃ x todo' w',x ∈ L ∧ (Instr.next (.pointer (some ⟨r,0,none⟩)) false ty).run Try.prog w = .ok (.tuple #[.bool true,T.mkv x.1,val x.2]) w' ∧ RangeL T val w' b r L (done ++ [x]) todo' ∧ w'.rangeLeft b r < w.rangeLeft b r ∧
   w.grownBy w' (some r) ∧ w'.heap.size = w.heap.size ∧ (Instr.entry (.pointer (some ⟨r,0,none⟩))).run Try.prog w' = .ok (.tuple #[T.mkv x.1,val x.2]) w':=by
 obtain ⟨D,left,cnt,h1,h2,h3,h4⟩:=h
 rcases h1.next hT.keyed ty with ⟨-,hl,hrun⟩|⟨key,v,kl,y,w',cnt',hkey,hlk,hv,hat,hrun,hrg,hlt,hgr,hsz,hen⟩
 ·refine .inl ⟨?_,hrun⟩
  cases todo with
  | nil=>rw [List.append_nil] at h3;exact h3
  | cons x l =>
   have:=(h4 (T.enc x.1)).2 ⟨x,by simp,rfl⟩
   rw [hl] at this
   cases this
 ·obtain ⟨x,hx,rfl⟩:=(h4 kl).1 hlk
  obtain ⟨todo',hp,hp2⟩:=perm_pick h3 hx
  have hxL : x ∈ L:=h3.mem_iff.2 (by simp [hx])
  have hok:=h2.ok _ (Pf.mem_keys.2 ⟨x,hxL,rfl⟩)
  obtain rfl : key = T.mkv x.1:=hT.keyed.inj hkey (hT.of hok)
  have hv2 : v = val x.2:=by
   simp only [R0,Option.some.injEq] at hv
   have e:=hat (.held v)
   rw [(h2.at_ x hxL).2,← hv] at e
   simpa using e.symm
  subst hv2
  refine .inr ⟨x,todo',w',hxL,hrun,⟨D,_,cnt',hrg,h2,hp,fun kl=>?_⟩,by rw [hrg.left_eq,h1.left_eq];exact hlt,hgr,hsz,hen⟩
  have hnd : (keys (x :: todo')).Nodup:=by
   have h5 : (keys (done ++ todo)).Nodup:=((h3.map _).nodup_iff).1 h2.nd
   unfold keys at h5 ⊢
   rw [List.map_append] at h5
   exact ((hp2.map _).nodup_iff).1 (List.nodup_append.1 h5).2.1
  have hnot : ∀ y ∈ todo',y.1 ≠ x.1:=fun y hy e=>(List.nodup_cons.1 hnd).1 (Pf.mem_keys.2 ⟨y,hy,e⟩)
  rw [Bool.and_eq_true,h4]
  constructor
  ·rintro ⟨⟨y,hy,rfl⟩,hne⟩
   rcases List.mem_cons.1 (hp2.mem_iff.1 hy) with rfl|hy2
   ·rw [WideAt.sameKey_self (hT.keyed.key (hT.of hok))] at hne
    cases hne
   ·exact ⟨y,hy2,rfl⟩
  ·rintro ⟨y,hy,rfl⟩
   have hyt : y ∈ todo:=hp2.mem_iff.2 (by simp [hy])
   have hyL : y ∈ L:=h3.mem_iff.2 (by simp [hyt])
   refine ⟨⟨y,hyt,rfl⟩,?_⟩
   rw [Maps.sameKey_ne (fun e=>hnot y hy (hT.inj (h2.ok _ (Pf.mem_keys.2 ⟨y,hyL,rfl⟩)) hok e))]
   rfl
theorem MapL.range (h : MapL T val w b L) (hT : T.Is) {t e : TypeId} (ht : Try.prog.underlying t = some (.map T.t e)) :
  ∃ w',(Instr.range t (.map (some b))).run Try.prog w = .ok (.pointer (some ⟨w.heap.size,0,none⟩)) w' ∧ RangeL T val w' b w.heap.size L [] L ∧ w.grownBy w' none ∧ w'.heap.size = w.heap.size + 1:=by
 obtain ⟨D,h1,h2⟩:=h
 obtain ⟨w',r1,r2,r3,r4⟩:=h1.range hT.keyed ht
 refine ⟨w',r1,⟨D,_,_,r2,h2,List.Perm.refl _,fun kl=>⟨fun h=>h2.has kl h,?_⟩⟩,r3,r4⟩
 rintro ⟨x,hx,rfl⟩
 exact (h2.at_ x hx).1
end
section
variable {κ β : Type} {T : KT κ} {val : β → Value} (w : World) {ops : Array Oper} {rest : List Oper} {o : Oper} {a : Act} {Q : Exit → Act → World → Prop} {b r : Nat} {L done todo : List (κ × β)}
theorem wpList_range_L (hg : o.guard = none) (m : Operand) (t : TypeId) (hop : o.op = Op.range t m) (e : TypeId) (hT : T.Is) (ht : Try.prog.underlying t = some (.map T.t e)) (hm : a.eval m = .map (some b)) (h : MapL T val w b L)
  (hK : ∀ w',RangeL T val w' b w.heap.size L [] L → Below w.heap.size w w' → w'.heap.size = w.heap.size + 1 → wpList Try.prog ops Q rest (a.put o.dst (.pointer (some ⟨w.heap.size,0,none⟩))) w') :
  wpList Try.prog ops Q (o :: rest) a w:=by
 refine wpList_plain hg fun K' hK'=>?_
 obtain ⟨w',hrun,r1,r2,r3⟩:=h.range hT ht
 unfold Oper.wp
 simp [execOp,hop,hm,hrun,Result.andThen]
 exact hK' _ _ (hK w' r1 ⟨r2.os,r2.tape,r2.output,r2.size,fun i hi=>r2.block i hi (by simp)⟩ r3)
theorem wpList_next_L (hg : o.guard = none) (it : Operand) (hop : o.op = Op.next it false) (hT : T.Is) (hit : a.eval it = .pointer (some ⟨r,0,none⟩)) (h : RangeL T val w b r L done todo)
  (hDone : L.Perm done → wpList Try.prog ops Q rest (a.put o.dst (.tuple #[.bool false])) w)
  (hMore : ∀ x todo' w',x ∈ L → RangeL T val w' b r L (done ++ [x]) todo' → w'.rangeLeft b r < w.rangeLeft b r → w.grownBy w' (some r) → w'.heap.size = w.heap.size → (Instr.entry (.pointer (some ⟨r,0,none⟩))).run Try.prog w' = .ok (.tuple #[T.mkv x.1,val x.2]) w' →
   wpList Try.prog ops Q rest (a.put o.dst (.tuple #[.bool true,T.mkv x.1,val x.2])) w') :
  wpList Try.prog ops Q (o :: rest) a w:=by
 refine wpList_plain hg fun K' hK'=>?_
 unfold Oper.wp
 rcases h.next hT o.type with ⟨hp,hrun⟩|⟨x,todo',w',hx,hrun,h1,h2,h3,h4,h5⟩
 ·simp [execOp,hop,hit,hrun,Result.andThen]
  exact hK' _ _ (hDone hp)
 ·simp [execOp,hop,hit,hrun,Result.andThen]
  exact hK' _ _ (hMore x todo' w' hx h1 h2 h3 h4 h5)
end
def I8 (a : Int) : Prop:=-9223372036854775808 ≤ a ∧ a ≤ 9223372036854775807
theorem i8_wf {a : Int} (h : I8 a) : (Lit.int .i64 a).wf = true:=by
 unfold I8 at h
 simp [Lit.wf,IntKind.min,IntKind.max,IntKind.signed,IntKind.bits]
 omega
def TI : KT Int:=⟨3,.int .i64,.int .i64,I8⟩
theorem ti : TI.Is:=⟨Maps.int_keyed Try.underlying3,fun h=>Maps.keyOf_int_mk Try.underlying3 (i8_wf h),fun _ _ e=>(Lit.int.inj e).2⟩
theorem A.laid : laidOutB Try.prog = true:=by kernel_rfl
theorem A.keyT : Try.prog.keyType 29 = true:=by kernel_rfl
theorem A.keyed : Maps.Keyed Try.prog 29:=Maps.Keyed.of_law (deep_law_laid A.laid (m:=3) (by omega) (of_decide_eq_true (by kernel_rfl)) (by kernel_rfl) (by kernel_rfl))
theorem A.tsz : ∃ k,Try.prog.types.size + 1 = k + 2:=⟨Try.prog.types.size - 1,by have : 1 ≤ Try.prog.types.size:=of_decide_eq_true (by kernel_rfl);omega⟩
theorem A.lits2 (a b : Int) (h1 : I8 a) (h2 : I8 b) : Try.prog.keyLits (Try.prog.types.size + 1) 29 [.int .i64 a,.int .i64 b] = some [.int .i64 a,.int .i64 b]:=by
 obtain ⟨k,hk⟩:=A.tsz
 have c1 : Try.prog.cellsOf 29 = 2:=by kernel_rfl
 have c2 : Try.prog.cellsOf 3 = 1:=by kernel_rfl
 rw [hk]
 simp [Program.keyLits,Try.underlying29,Try.underlying3,c1,c2,i8_wf h1,i8_wf h2,List.range,List.range.loop]
theorem A.key2 (a b : Int) (h1 : I8 a) (h2 : I8 b) : keyOf Try.prog 29 (.agg #[.int .i64 a,.int .i64 b]) = some (.string (keyBytes [.int .i64 a,.int .i64 b])):=by
 have c1 : Try.prog.cellsOf 29 = 2:=by kernel_rfl
 unfold keyOf
 rw [Try.underlying29]
 dsimp only
 rw [if_pos (by simp [A.keyT,Value.formed,Try.underlying29,c1])]
 show Option.map _ (Try.prog.keyLits (Try.prog.types.size + 1) 29 [.int .i64 a,.int .i64 b]) = _
 rw [A.lits2 a b h1 h2]
 rfl
def TS : KT (Int × Int):=⟨29,fun s=>.agg #[.int .i64 s.1,.int .i64 s.2],fun s=>.string (keyBytes [.int .i64 s.1,.int .i64 s.2]),fun s=>I8 s.1 ∧ I8 s.2⟩
theorem ts : TS.Is:=⟨A.keyed,fun h=>A.key2 _ _ h.1 h.2,fun {x y} h1 h2 e=>by
 have e:=keyLits_inj (A.lits2 _ _ h1.1 h1.2) (A.lits2 _ _ h2.1 h2.2) (Lit.string.inj e)
 simp only [List.cons.injEq,Lit.int.injEq,true_and,and_true] at e
 exact Prod.ext e.1 e.2⟩
end Go.Proofs.Ytfphiomhlhpphaa
namespace Go.Proofs.Ytfphiomhlhpphaa
open Go Go.RowKit
open Pf (Site Sn ix addk alt keys)
set_option maxRecDepth 100000
set_option maxHeartbeats 2000000
abbrev Cl:=Option Nat × List Sn × Bool
def cl0 : Cl:=(none,[],false)
def vI (n : Int) : Value:=.int .i64 n
def vC (c : Cl) : Value:=.agg #[.map c.1,.bool c.2.2]
def sV (s : Site) : Value:=.agg #[.int .i64 s.1,.int .i64 s.2]
theorem zI (w : World) : (zeroValue 2).run Try.prog w = .ok (vI 0) w:=by kernel_rfl
theorem zC (w : World) : (zeroValue 85).run Try.prog w = .ok (vC cl0) w:=by kernel_rfl
theorem uE : Try.prog.underlying 73 = some (.map TI.t 2):=Try.underlying73
theorem uJ : Try.prog.underlying 74 = some (.map TS.t 2):=Try.underlying74
theorem uC : Try.prog.underlying 75 = some (.map TS.t 85):=Try.underlying75
theorem addI_any {w : World} {b : Nat} {L : List (Int × Int)} (h : MapL TI vI w b L) {k : Int} {n : Int} (hk : TI.ok k) (hn : Pf.Bd (Pf.look 0 L k)) (h1 : Pf.Bd n) (hl : L.length < maxLen) :
  Calls Try.prog 41 #[.map (some b),.int .i64 k,.int .i64 n] w fun e w'=>e = .returned (.int .i64 (Pf.more (Pf.look 0 L k) n)) ∧ MapL TI vI w' b (alt 0 L k (fun y=>Pf.more y n)) ∧ w.grownBy w' (some b):=by
 have hlk:=h.look ti uE 0 (zI w) hk
 obtain ⟨w',hput,hm,hg⟩:=h.put ti uE 0 hl hk (Pf.more (Pf.look 0 L k) n)
 rw [Pf.alt_const L k (fun y=>Pf.more y n)]
 obtain ⟨x,hx⟩ : ∃ x,Pf.look 0 L k = x:=⟨_,rfl⟩
 rw [hx] at hlk hput hm hn ⊢
 have hmore : Pf.more x n = if 1099511627776 < x + n then 1099511627776 else x + n:=by
  unfold Pf.more Pf.M
  unfold Pf.Bd Pf.M at hn h1
  split <;> split <;> omega
 rw [hmore] at hput hm ⊢
 have HM:=hid (And.intro hm hg)
 unfold TI vI at hlk hput
 try unfold sV
 dsimp only at hlk hput
 unfold Pf.Bd Pf.M at hn h1
 clear hm hg h hl hk hx hmore
 by_cases hc : 1099511627776 < x + n
 all_goals
  first|rw [if_pos hc] at hput HM ⊢|rw [if_neg hc] at hput HM ⊢
  go_enter Try.func41,Try.ntmps41
  go_wp2
  all_goals (go_ret;exact ⟨rfl,HM.out⟩)
theorem addS_any {w : World} {b : Nat} {L : List (Site × Int)} (h : MapL TS vI w b L) {k : Site} {n : Int} (hk : TS.ok k) (hn : Pf.Bd (Pf.look 0 L k)) (h1 : Pf.Bd n) (hl : L.length < maxLen) :
  Calls Try.prog 42 #[.map (some b),sV k,.int .i64 n] w fun e w'=>e = .returned (.int .i64 (Pf.more (Pf.look 0 L k) n)) ∧ MapL TS vI w' b (alt 0 L k (fun y=>Pf.more y n)) ∧ w.grownBy w' (some b):=by
 obtain ⟨w1,hw1⟩ : ∃ w1,w1 = w.alloc (.cells #[.int .i64 k.1,.int .i64 k.2] 29):=⟨_,rfl⟩
 have hb1 : Below w.heap.size w w1:=by rw [hw1];exact (Below.refl _ _).alloc (Nat.le_refl _) _
 have bx : BX w1 w.heap.size #[.int .i64 k.1,.int .i64 k.2] 29:=by rw [hw1];exact BX.new w _ _
 have b0 : w1.cell? ⟨w.heap.size,0,none⟩ = some (.int .i64 k.1):=bx.cell 0
 have b1 : w1.cell? ⟨w.heap.size,1,none⟩ = some (.int .i64 k.2):=bx.cell 1
 have h:=h.below hb1
 have hlk:=h.look ts uJ 0 (zI w1) hk
 obtain ⟨w',hput,hm,hg⟩:=h.put ts uJ 0 hl hk (Pf.more (Pf.look 0 L k) n)
 rw [Pf.alt_const L k (fun y=>Pf.more y n)]
 have hg : w.grownBy w' (some b):=⟨hg.os.trans hb1.os,hg.tape.trans hb1.tape,hg.output.trans hb1.output,Nat.le_trans hb1.size hg.size,fun i hi hne=>(hg.block i (Nat.lt_of_lt_of_le hi hb1.size) hne).trans (hb1.block i hi)⟩
 have HW1:=hid hw1
 clear hw1 hb1 bx
 obtain ⟨x,hx⟩ : ∃ x,Pf.look 0 L k = x:=⟨_,rfl⟩
 rw [hx] at hlk hput hm hn ⊢
 have hmore : Pf.more x n = if 1099511627776 < x + n then 1099511627776 else x + n:=by
  unfold Pf.more Pf.M
  unfold Pf.Bd Pf.M at hn h1
  split <;> split <;> omega
 rw [hmore] at hput hm ⊢
 have HM:=hid (And.intro hm hg)
 unfold TS vI at hlk hput
 try unfold sV
 dsimp only at hlk hput
 unfold Pf.Bd Pf.M at hn h1
 clear hm hg h hl hk hx hmore
 by_cases hc : 1099511627776 < x + n
 all_goals
  first|rw [if_pos hc] at hput HM ⊢|rw [if_neg hc] at hput HM ⊢
  go_enter Try.func42,Try.ntmps42
  go_upto_region 1 with fail
  rw [← HW1.out]
  go_wp2
  all_goals (go_ret;exact ⟨rfl,HM.out⟩)
structure IV where
 ib : Nat
 eb : Nat
 jb : Nat
 cb : Nat
 E : List Sn
 J : List (Site × Int)
 C : List (Site × Cl)
def ClR (w : World) (c : Cl) : Prop:=(∃ b,c.1 = some b ∧ MapL TI vI w b c.2.1) ∨ (c.1 = none ∧ c.2.1 = [])
def IV.foot (p : IV) (k : Nat) : Prop:=k = p.ib ∨ k = p.eb ∨ k = p.jb ∨ k = p.cb ∨ ∃ x ∈ p.C,x.2.1 = some k
structure IP (w : World) (base : Nat) (p : IV) : Prop where
 ins : BX w p.ib #[.map (some p.eb),.map (some p.jb),.map (some p.cb)] 77
 me : MapL TI vI w p.eb p.E
 mj : MapL TS vI w p.jb p.J
 mc : MapL TS vC w p.cb p.C
 ml : ∀ x ∈ p.C,∃ b,x.2.1 = some b ∧ MapL TI vI w b x.2.2.1 ∧ b ≠ p.eb ∧ b ≠ p.jb ∧ b ≠ p.cb
 ap : ∀ x ∈ p.C,∀ y ∈ p.C,x.2.1 = y.2.1 → x.1 = y.1
 ej : p.eb ≠ p.jb
 ec : p.eb ≠ p.cb
 jc : p.jb ≠ p.cb
 low : ∀ k,p.foot k → base ≤ k
structure PP (w : World) (base pb : Nat) (p : IV) : Prop where
 box : BX w pb #[.pointer (some ⟨p.ib,0,none⟩)] 53
 has : IP w base p
 low : base ≤ pb
structure OkP (p : IV) (n : Nat) : Prop where
 be : ∀ x ∈ p.E,1 ≤ x.2 ∧ x.2 ≤ Pf.M
 bj : ∀ x ∈ p.J,1 ≤ x.2 ∧ x.2 ≤ Pf.M
 bc : ∀ x ∈ p.C,Pf.OkC x.2.2 ∧ x.2.2.1 ≠ [] ∧ ∀ y ∈ x.2.2.1,1 ≤ y.2
 le : p.E.length ≤ n
 lj : p.J.length ≤ n
 lc : p.C.length ≤ n
def IV.st (p : IV) : Pf.St:=⟨Pf.look 0 p.E,Pf.look 0 p.J,fun x=>(Pf.look cl0 p.C x).2⟩
theorem map_ne {κ β : Type} {T : KT κ} {val : β → Value} {w : World} {b k : Nat} {L : List (κ × β)} {cs : Array Value} {t : TypeId} (h : MapL T val w b L) (h2 : BX w k cs t) : b ≠ k:=by
 rintro rfl
 obtain ⟨es,c,h1⟩:=h.is
 unfold BX at h2
 rw [h1] at h2
 simp at h2
theorem IP.lt {w : World} {base : Nat} {p : IV} (h : IP w base p) : ∀ k,p.foot k → k < w.heap.size:=by
 rintro k (rfl|rfl|rfl|rfl|⟨x,hx,e⟩)
 ·exact h.ins.sz
 ·exact h.me.lt
 ·exact h.mj.lt
 ·exact h.mc.lt
 ·obtain ⟨b,e2,h2,-⟩:=h.ml x hx
  rw [e2] at e
  rw [← Option.some.inj e]
  exact h2.lt
theorem IP.chg {S : Nat → Prop} {w w' : World} {base : Nat} {p : IV} (h : IP w base p) (hc : Chg S w w') (hs : ∀ k,p.foot k → ¬ S k) : IP w' base p :=
 { h with
  ins:=h.ins.chg hc (hs _ (.inl rfl))
  me:=h.me.chg hc (hs _ (.inr (.inl rfl)))
  mj:=h.mj.chg hc (hs _ (.inr (.inr (.inl rfl))))
  mc:=h.mc.chg hc (hs _ (.inr (.inr (.inr (.inl rfl)))))
  ml:=fun x hx=>by
   obtain ⟨b,e,h1,h2⟩:=h.ml x hx
   exact ⟨b,e,h1.chg hc (hs _ (.inr (.inr (.inr (.inr ⟨x,hx,e⟩))))),h2⟩ }
theorem IP.below {w w' : World} {base : Nat} {p : IV} (h : IP w base p) (hb : Below w.heap.size w w') : IP w' base p:=h.chg (S:=fun _=>False) (Chg.of_below hb) (fun _ _ e=>e)
theorem PP.chg {S : Nat → Prop} {w w' : World} {base pb : Nat} {p : IV} (h : PP w base pb p) (hc : Chg S w w') (h0 : ¬ S pb) (hs : ∀ k,p.foot k → ¬ S k) : PP w' base pb p:=⟨h.box.chg hc h0,h.has.chg hc hs,h.low⟩
theorem PP.below {w w' : World} {base pb : Nat} {p : IV} (h : PP w base pb p) (hb : Below w.heap.size w w') : PP w' base pb p:=⟨h.box.below hb,h.has.below hb,h.low⟩
theorem PP.off {w : World} {base pb : Nat} {p : IV} (h : PP w base pb p) : ¬ p.foot pb:=by
 rintro (e|e|e|e|⟨x,hx,e⟩)
 ·have h1:=h.box
  rw [e] at h1
  have h2:=h.has.ins
  unfold BX at h1 h2
  rw [h1] at h2
  simp at h2
 ·exact map_ne h.has.me h.box e.symm
 ·exact map_ne h.has.mj h.box e.symm
 ·exact map_ne h.has.mc h.box e.symm
 ·obtain ⟨b,e2,h2,-⟩:=h.has.ml x hx
  rw [e2] at e
  exact map_ne h2 h.box (Option.some.inj e)
theorem IP.cl {w : World} {base : Nat} {p : IV} (h : IP w base p) (s : Site) : ClR w (Pf.look cl0 p.C s):=by
 by_cases hk : s ∈ keys p.C
 ·obtain ⟨x,hx,rfl⟩:=Pf.mem_keys.1 hk
  rw [Pf.look_mem h.mc.nd hx]
  obtain ⟨b,e,h1,-⟩:=h.ml x hx
  exact .inl ⟨b,e,h1⟩
 ·rw [Pf.look_not hk]
  exact .inr ⟨rfl,rfl⟩
theorem ClR.below {w w' : World} {c : Cl} (h : ClR w c) (hb : Below w.heap.size w w') : ClR w' c:=h.imp_left fun ⟨b,e,h⟩=>⟨b,e,h.below hb⟩
theorem ClR.len {w : World} {c : Cl} (h : ClR w c) (ty : TypeId) : (Builtin.len_ #[73] ty #[.map c.1]).run Try.prog w = .ok (.int .i64 (c.2.1.length : Int)) w:=by
 rcases h with ⟨b,e,h⟩|⟨e,e2⟩
 ·rw [e]
  exact h.len uE ty
 ·rw [e,e2]
  exact Maps.len_nil uE ty
def NoP (w : World) (v : Value) : Prop:=v = .pointer none ∨ ∃ b,v = .pointer (some ⟨b,0,none⟩) ∧ BX w b #[.pointer none] 53
theorem NoP.below {w w' : World} {v : Value} (h : NoP w v) (hb : Below w.heap.size w w') : NoP w' v:=h.imp_right fun ⟨b,e,h⟩=>⟨b,e,h.below hb⟩
theorem made_no {w : World} {v : Value} (h : NoP w v) : Calls Try.prog 40 #[v] w fun e w'=>e = .returned (.bool false) ∧ w' = w:=by
 rcases h with rfl|⟨b,rfl,h⟩
 ·go_enter Try.func40,Try.ntmps40
  go_wp2
  go_ret
  exact ⟨rfl,rfl⟩
 ·have b0 : w.cell? ⟨b,0,none⟩ = some (.pointer none):=h.cell 0
  clear h
  go_enter Try.func40,Try.ntmps40
  go_wp2
  go_ret
  exact ⟨rfl,rfl⟩
theorem made_yes {w : World} {base pb : Nat} {p : IV} (h : PP w base pb p) : Calls Try.prog 40 #[.pointer (some ⟨pb,0,none⟩)] w fun e w'=>e = .returned (.bool true) ∧ w' = w:=by
 have b0 : w.cell? ⟨pb,0,none⟩ = some (.pointer (some ⟨p.ib,0,none⟩)):=h.box.cell 0
 clear h
 go_enter Try.func40,Try.ntmps40
 go_wp2
 go_ret
 exact ⟨rfl,rfl⟩
theorem seen_no {w : World} {v : Value} (h : NoP w v) : Calls Try.prog 44 #[v] w fun e w'=>e = .returned (.agg #[.map none,.map none,.map none]) ∧ Below w.heap.size w w':=by
 have HN:=hid h
 clear h
 go_enter Try.func44,Try.ntmps44
 go_wp2_with (go_at_call 40;refine (made_no (HN.out.below ((Below.refl _ _).alloc (Nat.le_refl _) _))).mono ?_;rintro e w' ⟨rfl,rfl⟩)
 exact bodyPost_ret (v:=.agg #[.map none,.map none,.map none]) (by simp [results,Try.results44,go_sem]) rfl ⟨rfl,BLw⟩
theorem seen_yes {w : World} {base pb : Nat} {p : IV} (h : PP w base pb p) : Calls Try.prog 44 #[.pointer (some ⟨pb,0,none⟩)] w fun e w'=>e = .returned (.agg #[.map (some p.eb),.map (some p.jb),.map (some p.cb)]) ∧ Below w.heap.size w w':=by
 have HN:=hid h
 have b0 : w.cell? ⟨pb,0,none⟩ = some (.pointer (some ⟨p.ib,0,none⟩)):=h.box.cell 0
 have i0 : w.cell? ⟨p.ib,0,none⟩ = some (.map (some p.eb)):=h.has.ins.cell 0
 have i1 : w.cell? ⟨p.ib,1,none⟩ = some (.map (some p.jb)):=h.has.ins.cell 1
 have i2 : w.cell? ⟨p.ib,2,none⟩ = some (.map (some p.cb)):=h.has.ins.cell 2
 have z0:=h.box.sz
 have z1:=h.has.ins.sz
 clear h
 go_enter Try.func44,Try.ntmps44
 go_wp2_with (go_at_call 40;refine (made_yes (HN.out.below ((Below.refl _ _).alloc (Nat.le_refl _) _))).mono ?_;rintro e w' ⟨rfl,rfl⟩)
 exact bodyPost_ret (v:=.agg #[.map (some p.eb),.map (some p.jb),.map (some p.cb)]) (by simp [results,Try.results44,go_sem]) rfl ⟨rfl,BLw⟩
theorem kind_any {w : World} {c : Cl} (h : ClR w c) : Calls Try.prog 46 #[vC c] w fun e w'=>e = .returned (.int .i64 (Pf.kind c.2)) ∧ Below w.heap.size w w':=by
 obtain ⟨w1,hw1⟩ : ∃ w1,w1 = w.alloc (.cells #[.map c.1,.bool c.2.2] 85):=⟨_,rfl⟩
 have hb1 : Below w.heap.size w w1:=by rw [hw1];exact (Below.refl _ _).alloc (Nat.le_refl _) _
 have bx : BX w1 w.heap.size #[.map c.1,.bool c.2.2] 85:=by rw [hw1];exact BX.new w _ _
 have b0 : w1.cell? ⟨w.heap.size,0,none⟩ = some (.map c.1):=bx.cell 0
 have b1 : w1.cell? ⟨w.heap.size,1,none⟩ = some (.bool c.2.2):=bx.cell 1
 have hl:=(h.below hb1).len
 have HB1:=hid hb1
 have HW1:=hid hw1
 unfold vC
 clear bx hb1 hw1 h
 obtain ⟨mo,l,m⟩:=c
 dsimp only at *
 have HK : Hid (Pf.kind (l,m) = if m = true then 3 else if l.length = 0 then 0 else if l.length = 1 then 1 else 2):=rfl
 have D : m = true ∨ (m = false ∧ l.length = 0) ∨ (m = false ∧ l.length = 1) ∨ (m = false ∧ 2 ≤ l.length):=by
  cases m
  ·rcases Nat.lt_or_ge l.length 2 with h|h
   ·have : l.length = 0 ∨ l.length = 1:=by omega
    rcases this with h|h <;> simp [h]
   ·simp [h]
  ·simp
 obtain ⟨n,hn⟩ : ∃ n,l.length = n:=⟨_,rfl⟩
 rw [hn] at hl HK D
 clear hn
 rcases D with rfl|⟨rfl,rfl⟩|⟨rfl,rfl⟩|⟨rfl,hn2⟩
 case' inr.inr.inr =>
  have q0 : ((n : Int) == 0) = false:=by simp;omega
  have q1 : ((n : Int) == 1) = false:=by simp;omega
  have HK : Hid (Pf.kind (l,false) = 2):=by show _ = _;rw [HK.out,if_neg (by decide),if_neg (by omega),if_neg (by omega)]
  clear hn2
 all_goals
  go_enter Try.func46,Try.ntmps46
  go_upto_region 1 with fail
  rw [← HW1.out]
  go_wp2
  go_ret
  refine ⟨by rw [HK.out];rfl,HB1.out⟩
end Go.Proofs.Ytfphiomhlhpphaa
