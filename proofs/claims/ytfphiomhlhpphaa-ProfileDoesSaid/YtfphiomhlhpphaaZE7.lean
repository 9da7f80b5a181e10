/- Own texts for the claim, part 7. -/
import Derived.Test.YtfphiomhlhpphaaZE6
import Derived.StillTailTactics
import Derived.RangeFuncNested
import Derived.RangeFuncBound
import Derived.RangeFuncCalls
import Derived.RangeFuncLeaves
import Derived.Shelf.Abstract
import Derived.Shelf.RegionOpen
import Derived.OwnWalkIn
import Derived.TacticsInMore
import Derived.LoopNIn
import Derived.LoopIn
set_option maxRecDepth 100000
namespace Go.Proofs.Ytfphiomhlhpphaa
open Go Go.RowKit
open Pf (Site Sn ix addk alt keys)
set_option maxRecDepth 100000
set_option maxHeartbeats 4000000
structure AdI (w : World) (base : Nat) (r o q : PR) (W : World) : Prop where
 rf : RefR W base q
 pb : q.pb = r.pb
 ro : RefR W base o
 ob : w.heap.size ≤ o.pb
 ch : Chg (fun b=>r.foot b) w W
 ee : ∀ b,q.ev.ownBlock = some b → r.foot b ∨ w.heap.size ≤ b
 ej : ∀ b,q.jv.ownBlock = some b → r.foot b ∨ w.heap.size ≤ b
 ec : ∀ b,q.cv.ownBlock = some b → r.foot b ∨ w.heap.size ≤ b
 ae : ∀ b,q.ev.ownBlock = some b → o.ev.ownBlock ≠ some b
 aj : ∀ b,q.jv.ownBlock = some b → o.jv.ownBlock ≠ some b
 ac : ∀ b,q.cv.ownBlock = some b → o.cv.ownBlock ≠ some b
 rp : r.pb < w.heap.size
theorem AdI.below {w W X : World} {base : Nat} {r o q : PR} (h : AdI w base r o q W) (hb : Below W.heap.size W X) : AdI w base r o q X :=
 ⟨h.rf.below hb,h.pb,h.ro.below hb,h.ob,h.ch.below hb,h.ee,h.ej,h.ec,h.ae,h.aj,h.ac,h.rp⟩
def addE {κ : Type} [DecidableEq κ] (l O : List (κ × Int)) : List (κ × Int):=O.foldl (fun l x=>alt 0 l x.1 (fun y=>Pf.more y x.2)) l
theorem addE_step {κ : Type} [DecidableEq κ] {l O : List (κ × Int)} {i : Nat} {x : κ × Int} (hx : O[i]? = some x) : alt 0 (addE l (O.take i)) x.1 (fun y=>Pf.more y x.2) = addE l (O.take (i + 1)):=by
 unfold addE
 rw [List.take_add_one,hx,List.foldl_append]
 rfl
theorem keys_addE {κ : Type} [DecidableEq κ] : ∀ {O l : List (κ × Int)},(∀ k ∈ keys O,k ∈ keys l) → keys (addE l O) = keys l
 | [],_,_=>rfl
 | x :: O,l,h=>by
  have h1 : keys (alt 0 l x.1 (fun y=>Pf.more y x.2)) = keys l:=by
   rw [Pf.keys_alt,Pf.keys_addk,if_pos (h x.1 (by simp [keys]))]
  show keys (addE (alt 0 l x.1 _) O) = _
  rw [keys_addE (by rw [h1];exact fun k hk=>h k (by unfold keys at hk ⊢;simp only [List.map_cons,List.mem_cons];exact .inr hk)),h1]
theorem bd_addE {κ : Type} [DecidableEq κ] : ∀ {O l : List (κ × Int)},(∀ x ∈ O,Pf.Bd x.2) → (∀ x ∈ l,Pf.Bd x.2) → ∀ x ∈ addE l O,Pf.Bd x.2
 | [],_,_,h=>h
 | y :: O,l,hO,h=>bd_addE (O:=O) (l:=alt 0 l y.1 (fun z=>Pf.more z y.2)) (fun x hx=>hO x (by simp [hx])) (fun x hx=>by
  rcases Pf.mem_alt hx with hx|⟨-,z,hz,e⟩
  ·exact h x hx
  ·rw [e]
   refine Pf.more_bd ?_ (hO y (by simp))
   rcases hz with rfl|hz
   ·exact Pf.bd0
   ·exact h _ hz)
theorem rbd_look {κ : Type} [DecidableEq κ] {l : List (κ × Int)} (h : ∀ x ∈ l,Pf.Bd x.2) (k : κ) : Pf.Bd (Pf.look 0 l k):=by
 by_cases hk : ix l k < l.length
 ·exact h _ (List.mem_of_getElem? (Pf.look_at (d:=(0 : Int)) hk))
 ·rw [Pf.look_none (d:=(0 : Int)) (by omega)]
  exact Pf.bd0
theorem keys_len {κ β : Type} {l l' : List (κ × β)} (h : keys l = keys l') : l.length = l'.length:=by
 have:=congrArg List.length h
 simpa [keys] using this
theorem AdI.stepE {w W X : World} {base : Nat} {r o q q' : PR} (h : AdI w base r o q W) (hc : Chg (Own1 q.pb q.ev) W X) (hf : Fresh W q.ev q'.ev) (h1 : q'.jv = q.jv) (h2 : q'.cv = q.cv) (hr : RefR X base q') (hp : q'.pb = q.pb) : AdI w base r o q' X:=by
 have hw:=h.ch.size
 have hrf:=h.rf
 have hro:=h.ro
 have hne : o.pb ≠ q.pb:=by have:=h.ob;have:=h.rp;have:=h.pb;omega
 have hfr : ∀ b,q'.ev.ownBlock = some b → q.ev.ownBlock = some b ∨ W.heap.size ≤ b:=fun b e=>by
  rcases hf with f|⟨g,f,hg⟩
  ·exact .inl (f ▸ e)
  ·rw [f,Option.some.injEq] at e
   exact .inr (e ▸ hg)
 refine ⟨hr,hp.trans h.pb,hro.chg hc ?_,h.ob,h.ch.trans hc (fun i e=>?_),?_,?_,?_,?_,?_,?_,h.rp⟩
 ·rintro k hk (e|e)
  ·rcases hk with rfl|hk|hk|hk|⟨x,hx,hk⟩
   ·exact hne e
   ·exact own_unlike_box hro.er hrf.box (by decide) (e ▸ hk)
   ·exact own_unlike_box hro.jr hrf.box (by decide) (e ▸ hk)
   ·exact own_unlike_box hro.cr hrf.box (by decide) (e ▸ hk)
   ·exact own_unlike_box (hro.lr x hx) hrf.box (by decide) (e ▸ hk)
  ·rcases hk with rfl|hk|hk|hk|⟨x,hx,hk⟩
   ·exact own_unlike_box hrf.er hro.box (by decide) e
   ·exact h.ae k e hk
   ·exact own_unlike hro.jr hrf.er (by decide) k hk e
   ·exact own_unlike hro.cr hrf.er (by decide) k hk e
   ·exact own_unlike (hro.lr x hx) hrf.er (by decide) k hk e
 ·rcases e with rfl|e
  ·exact .inl (.inl h.pb)
  ·exact h.ee i e
 ·intro b e
  rcases hfr b e with e|e
  ·exact h.ee b e
  ·exact .inr (Nat.le_trans hw e)
 ·intro b e
  rw [h1] at e
  exact h.ej b e
 ·intro b e
  rw [h2] at e
  exact h.ec b e
 ·intro b e e2
  rcases hfr b e with e|e
  ·exact h.ae b e e2
  ·have:=own_lt hro.er b e2
   omega
 ·intro b e
  rw [h1] at e
  exact h.aj b e
 ·intro b e
  rw [h2] at e
  exact h.ac b e
theorem AdI.stepJ {w W X : World} {base : Nat} {r o q q' : PR} (h : AdI w base r o q W) (hc : Chg (Own1 q.pb q.jv) W X) (hf : Fresh W q.jv q'.jv) (h1 : q'.ev = q.ev) (h2 : q'.cv = q.cv) (hr : RefR X base q') (hp : q'.pb = q.pb) : AdI w base r o q' X:=by
 have hw:=h.ch.size
 have hrf:=h.rf
 have hro:=h.ro
 have hne : o.pb ≠ q.pb:=by have:=h.ob;have:=h.rp;have:=h.pb;omega
 have hfr : ∀ b,q'.jv.ownBlock = some b → q.jv.ownBlock = some b ∨ W.heap.size ≤ b:=fun b e=>by
  rcases hf with f|⟨g,f,hg⟩
  ·exact .inl (f ▸ e)
  ·rw [f,Option.some.injEq] at e
   exact .inr (e ▸ hg)
 refine ⟨hr,hp.trans h.pb,hro.chg hc ?_,h.ob,h.ch.trans hc (fun i e=>?_),?_,?_,?_,?_,?_,?_,h.rp⟩
 ·rintro k hk (e|e)
  ·rcases hk with rfl|hk|hk|hk|⟨x,hx,hk⟩
   ·exact hne e
   ·exact own_unlike_box hro.er hrf.box (by decide) (e ▸ hk)
   ·exact own_unlike_box hro.jr hrf.box (by decide) (e ▸ hk)
   ·exact own_unlike_box hro.cr hrf.box (by decide) (e ▸ hk)
   ·exact own_unlike_box (hro.lr x hx) hrf.box (by decide) (e ▸ hk)
  ·rcases hk with rfl|hk|hk|hk|⟨x,hx,hk⟩
   ·exact own_unlike_box hrf.jr hro.box (by decide) e
   ·exact own_unlike hro.er hrf.jr (by decide) k hk e
   ·exact h.aj k e hk
   ·exact own_unlike hro.cr hrf.jr (by decide) k hk e
   ·exact own_unlike (hro.lr x hx) hrf.jr (by decide) k hk e
 ·rcases e with rfl|e
  ·exact .inl (.inl h.pb)
  ·exact h.ej i e
 ·intro b e
  rw [h1] at e
  exact h.ee b e
 ·intro b e
  rcases hfr b e with e|e
  ·exact h.ej b e
  ·exact .inr (Nat.le_trans hw e)
 ·intro b e
  rw [h2] at e
  exact h.ec b e
 ·intro b e
  rw [h1] at e
  exact h.ae b e
 ·intro b e e2
  rcases hfr b e with e|e
  ·exact h.aj b e e2
  ·have:=own_lt hro.jr b e2
   omega
 ·intro b e
  rw [h2] at e
  exact h.ac b e
theorem AdI.stepC {w W X : World} {base : Nat} {r o q q' : PR} (h : AdI w base r o q W) (hc : Chg (Own1 q.pb q.cv) W X) (hf : Fresh W q.cv q'.cv) (h1 : q'.ev = q.ev) (h2 : q'.jv = q.jv) (hr : RefR X base q') (hp : q'.pb = q.pb) : AdI w base r o q' X:=by
 have hw:=h.ch.size
 have hrf:=h.rf
 have hro:=h.ro
 have hne : o.pb ≠ q.pb:=by have:=h.ob;have:=h.rp;have:=h.pb;omega
 have hfr : ∀ b,q'.cv.ownBlock = some b → q.cv.ownBlock = some b ∨ W.heap.size ≤ b:=fun b e=>by
  rcases hf with f|⟨g,f,hg⟩
  ·exact .inl (f ▸ e)
  ·rw [f,Option.some.injEq] at e
   exact .inr (e ▸ hg)
 refine ⟨hr,hp.trans h.pb,hro.chg hc ?_,h.ob,h.ch.trans hc (fun i e=>?_),?_,?_,?_,?_,?_,?_,h.rp⟩
 ·rintro k hk (e|e)
  ·rcases hk with rfl|hk|hk|hk|⟨x,hx,hk⟩
   ·exact hne e
   ·exact own_unlike_box hro.er hrf.box (by decide) (e ▸ hk)
   ·exact own_unlike_box hro.jr hrf.box (by decide) (e ▸ hk)
   ·exact own_unlike_box hro.cr hrf.box (by decide) (e ▸ hk)
   ·exact own_unlike_box (hro.lr x hx) hrf.box (by decide) (e ▸ hk)
  ·rcases hk with rfl|hk|hk|hk|⟨x,hx,hk⟩
   ·exact own_unlike_box hrf.cr hro.box (by decide) e
   ·exact own_unlike hro.er hrf.cr (by decide) k hk e
   ·exact own_unlike hro.jr hrf.cr (by decide) k hk e
   ·exact h.ac k e hk
   ·exact own_unlike (hro.lr x hx) hrf.cr (by decide) k hk e
 ·rcases e with rfl|e
  ·exact .inl (.inl h.pb)
  ·exact h.ec i e
 ·intro b e
  rw [h1] at e
  exact h.ee b e
 ·intro b e
  rw [h2] at e
  exact h.ej b e
 ·intro b e
  rcases hfr b e with e|e
  ·exact h.ec b e
  ·exact .inr (Nat.le_trans hw e)
 ·intro b e
  rw [h1] at e
  exact h.ae b e
 ·intro b e
  rw [h2] at e
  exact h.aj b e
 ·intro b e e2
  rcases hfr b e with e|e
  ·exact h.ac b e e2
  ·have:=own_lt hro.cr b e2
   omega
end Go.Proofs.Ytfphiomhlhpphaa
namespace Go.Proofs.Ytfphiomhlhpphaa
open Go Go.RowKit
open Pf (Site Sn ix addk alt keys)
set_option maxRecDepth 100000
set_option maxHeartbeats 2000000
structure AdC (w : World) (base : Nat) (r o q : PR) (ca : Site → List Sn × Bool) (W : World) : Prop where
 ad : AdI w base r o q W
 qE : q.E = addE r.E r.E
 qJ : q.J = addE r.J r.J
 kc : keys q.C = keys r.C
 eq : ∀ s,(Pf.look ce0 q.C s).2 = ca s
 ok : ∀ s,Pf.OkC (ca s)
 lo : ∀ x ∈ q.C,∀ b,x.2.1.ownBlock = some b → r.foot b ∨ w.heap.size ≤ b
theorem AdC.below {w W X : World} {base : Nat} {r o q : PR} {ca : Site → List Sn × Bool} (h : AdC w base r o q ca W) (hb : Below W.heap.size W X) : AdC w base r o q ca X :=
 ⟨h.ad.below hb,h.qE,h.qJ,h.kc,h.eq,h.ok,h.lo⟩
theorem AdC.cg {w W : World} {base : Nat} {r o q : PR} {ca ca' : Site → List Sn × Bool} (h : AdC w base r o q ca W) (e : ∀ s,ca s = ca' s) : AdC w base r o q ca' W:=by
 obtain rfl : ca = ca':=funext e
 exact h
theorem keys_here {β : Type} {d : β} {C : List (Site × β)} {s : Site} (hs : s ∈ keys C) (g : β → β) : keys (alt d C s g) = keys C:=by
 rw [Pf.keys_alt,Pf.keys_addk,if_pos hs]
theorem look_own {w : World} {r q : PR} (lo : ∀ x ∈ q.C,∀ b,x.2.1.ownBlock = some b → r.foot b ∨ w.heap.size ≤ b) (s : Site) : ∀ b,(Pf.look ce0 q.C s).1.ownBlock = some b → r.foot b ∨ w.heap.size ≤ b:=by
 intro b e
 by_cases hk : ix q.C s < q.C.length
 ·exact lo _ (List.mem_of_getElem? (Pf.look_at (d:=ce0) hk)) b e
 ·rw [Pf.look_none (d:=ce0) (by omega)] at e
  simp [ce0,Value.ownBlock] at e
theorem AdC.turn {w W X : World} {base : Nat} {r o q : PR} {ca : Site → List Sn × Bool} (h : AdC w base r o q ca W) {s : Site} (hs : s ∈ keys r.C) {cv' v' : Value} {g : List Sn × Bool → List Sn × Bool} (hg : Pf.OkC (g (ca s)))
  (hr : RefR X base { q with cv:=cv',C:=alt ce0 q.C s (fun c=>(v',g c.2)) }) (hc : Chg (Own1 q.pb q.cv) W X) (hf : Fresh W q.cv cv') (hv : v' = (Pf.look ce0 q.C s).1 ∨ ∀ b,v'.ownBlock = some b → W.heap.size ≤ b) :
  AdC w base r o { q with cv:=cv',C:=alt ce0 q.C s (fun c=>(v',g c.2)) } (fun y=>if y = s then g (ca s) else ca y) X:=by
 have hs' : s ∈ keys q.C:=by rw [h.kc];exact hs
 refine ⟨h.ad.stepC (q':={ q with cv:=cv',C:=alt ce0 q.C s (fun c=>(v',g c.2)) }) hc hf rfl rfl hr rfl,h.qE,h.qJ,(keys_here hs' _).trans h.kc,fun y=>?_,fun y=>?_,fun x hx b e=>?_⟩
 ·show (Pf.look ce0 (alt ce0 q.C s _) y).2 = _
  rw [Pf.look_alt]
  by_cases e : y = s
  ·rw [if_pos e,if_pos e]
   show g (Pf.look ce0 q.C s).2 = _
   rw [h.eq]
  ·rw [if_neg e,if_neg e]
   exact h.eq y
 ·show Pf.OkC (if y = s then _ else _)
  split
  ·exact hg
  ·exact h.ok y
 ·rcases Pf.mem_alt hx with hx|⟨-,z,-,e2⟩
  ·exact h.lo x hx b e
  ·rw [e2] at e
   rcases hv with hv|hv
   ·dsimp only at e
    rw [hv] at e
    exact look_own h.lo s b e
   ·exact .inr (Nat.le_trans h.ad.ch.size (hv b e))
def caI (C : List (Site × Ce)) (i : Nat) (s : Site) : List Sn × Bool:=if s ∈ keys (C.take i) then Pf.merge (Pf.look ce0 C s).2 (Pf.look ce0 C s).2 else (Pf.look ce0 C s).2
theorem caI_zero (C : List (Site × Ce)) (s : Site) : caI C 0 s = (Pf.look ce0 C s).2:=if_neg (by simp [keys])
theorem keys_take {β : Type} {C : List (Site × β)} {i : Nat} {x : Site × β} (hx : C[i]? = some x) : keys (C.take (i + 1)) = keys (C.take i) ++ [x.1]:=by
 unfold keys
 rw [List.take_add_one,hx,List.map_append]
 rfl
theorem not_yet {β : Type} {C : List (Site × β)} (hn : (keys C).Nodup) {i : Nat} {x : Site × β} (hx : C[i]? = some x) : ¬ x.1 ∈ keys (C.take i):=by
 have h1 : (keys (C.take (i + 1))).Nodup:=by
  unfold keys at hn ⊢
  rw [List.map_take]
  exact hn.sublist (List.take_sublist _ _)
 rw [keys_take hx,List.nodup_append] at h1
 exact fun h=>h1.2.2 _ h _ (by simp) rfl
theorem caI_step {C : List (Site × Ce)} (hn : (keys C).Nodup) {i : Nat} {x : Site × Ce} (hx : C[i]? = some x) (s : Site) : caI C (i + 1) s = if s = x.1 then Pf.merge (caI C i x.1) (Pf.look ce0 C x.1).2 else caI C i s:=by
 have hny:=not_yet hn hx
 unfold caI
 rw [keys_take hx,if_neg hny]
 by_cases e : s = x.1
 ·subst e
  rw [if_pos rfl,if_pos (by simp)]
 ·rw [if_neg e]
  by_cases h : s ∈ keys (C.take i)
  ·rw [if_pos h,if_pos (by simp [h])]
  ·rw [if_neg h,if_neg (by simp [h,e])]
theorem caI_all (C : List (Site × Ce)) (s : Site) : caI C C.length s = Pf.merge (Pf.look ce0 C s).2 (Pf.look ce0 C s).2:=by
 unfold caI
 rw [List.take_length]
 by_cases h : s ∈ keys C
 ·rw [if_pos h]
 ·rw [if_neg h,Pf.look_not (d:=ce0) h]
  rfl
theorem fold_step' {c : List Sn × Bool} {L : List Sn} {j : Nat} {y : Sn} (hy : L[j]? = some y) : Pf.cnt (Pf.fold c (L.take j)) y.1 y.2 = Pf.fold c (L.take (j + 1)):=by
 unfold Pf.fold
 rw [List.take_add_one,hy,List.foldl_append]
 rfl
end Go.Proofs.Ytfphiomhlhpphaa
namespace Go.Proofs.Ytfphiomhlhpphaa
open Go Go.RowKit
open Pf (Site Sn ix addk alt keys)
set_option maxRecDepth 100000
set_option maxHeartbeats 4000000
def AddPost (w : World) (base : Nat) (r : PR) (e : Ending) (w' : World) : Prop :=
 e = .returned (.tuple #[]) ∧ ∃ q,RefR w' base q ∧ q.pb = r.pb ∧ q.E = addE r.E r.E ∧ q.J = addE r.J r.J ∧ keys q.C = keys r.C ∧ (∀ s,(Pf.look ce0 q.C s).2 = Pf.merge (Pf.look ce0 r.C s).2 (Pf.look ce0 r.C s).2) ∧ Chg (fun b=>r.foot b) w w' ∧ (∀ b,q.foot b → r.foot b ∨ w.heap.size ≤ b)
theorem AddPost.is {w w' : World} {base : Nat} {r : PR} (q : PR) (h : RefR w' base q ∧ q.pb = r.pb ∧ q.E = addE r.E r.E ∧ q.J = addE r.J r.J ∧ keys q.C = keys r.C ∧ (∀ s,(Pf.look ce0 q.C s).2 = Pf.merge (Pf.look ce0 r.C s).2 (Pf.look ce0 r.C s).2) ∧ Chg (fun b=>r.foot b) w w' ∧ (∀ b,q.foot b → r.foot b ∨ w.heap.size ≤ b)) : AddPost w base r (.returned (.tuple #[])) w':=⟨rfl,q,h⟩
theorem rAdd_any {w : World} {base : Nat} {r : PR} (h : RefR w base r) (hE : r.E.length ≤ 2932031007340) (hJ : r.J.length ≤ 2932031007340) (hC : r.C.length ≤ 2932031007340) (bE : ∀ x ∈ r.E,Pf.Bd x.2) (bJ : ∀ x ∈ r.J,Pf.Bd x.2) (hnd : (keys r.C).Nodup) (hok : ∀ s,Pf.OkC (Pf.look ce0 r.C s).2) : Calls Try.prog 32 #[.pointer (some ⟨r.pb,0,none⟩),.pointer (some ⟨r.pb,0,none⟩)] w (AddPost w base r):=by
 have HC:=hid (rClone_any h hE hJ hC)
 unfold RClPost at HC
 have HH:=hid h
 have HBE:=hid bE
 have HBJ:=hid bJ
 have HbE : Hid (r.E.length ≤ 2932031007340):=hE
 have HbJ : Hid (r.J.length ≤ 2932031007340):=hJ
 have HbC : Hid (r.C.length ≤ 2932031007340):=hC
 have HNd:=hid hnd
 have HOk:=hid hok
 have hpb:=h.box.sz
 clear h hC bE bJ hnd hok
 go_enter Try.func32,Try.ntmps32
 go_upto_region 1 with (go_at_call 56;go_loud (refine HC.out.mono ?_;rintro e w1 ⟨pbo,evo,jvo,cvo,rfl,ho,hb,hop,hfr⟩;have HI0 : Hid (AdI w base r ⟨pbo,evo,jvo,cvo,r.E,r.J,r.C⟩ ⟨r.pb,r.ev,r.jv,r.cv,addE r.E (r.E.take 0),r.J,r.C⟩ w1):=(⟨HH.out.below hb,rfl,ho,hop,Chg.of_below hb,(fun b e=>.inl (.inr (.inl e))),(fun b e=>.inl (.inr (.inr (.inl e)))),(fun b e=>.inl (.inr (.inr (.inr (.inl e))))),(fun b e e2=>by have:=own_lt HH.out.er b e;have:=hfr b (.inl e2);omega),(fun b e e2=>by have:=own_lt HH.out.jr b e;have:=hfr b (.inr (.inl e2));omega),(fun b e e2=>by have:=own_lt HH.out.cr b e;have:=hfr b (.inr (.inr e2));omega),hpb⟩);clear ho hb hfr))
 go_wp2
 go_loopw [5] (fun v wr=>∃ (i : Nat) (ev : Value),v = .int .i64 (i : Int) ∧ i ≤ r.E.length ∧ Hid (AdI w base r ⟨pbo,evo,jvo,cvo,r.E,r.J,r.C⟩ ⟨r.pb,ev,r.jv,r.cv,addE r.E (r.E.take i),r.J,r.C⟩ wr)) (fun v _=>r.E.length - (intOf v).toNat)
 case atStart=>exact ⟨0,_,rfl,Nat.zero_le _,HI0⟩
 case round =>
  clear HI0
  obtain ⟨i,ev,rfl,hi,HI⟩:=hrel
  obtain ⟨wz,hwz⟩ : ∃ wz,wz = wr:=⟨_,rfl⟩
  rw [← hwz] at HI ⊢
  clear hwz
  have hbd:=HbE.out
  obtain ⟨oa,oc,hov⟩:=own_form HI.out.ro.er
  dsimp only at hov
  have z0 : wz.cell? ⟨pbo,0,none⟩ = some evo:=HI.out.ro.cells.1
  by_cases hlt : i < r.E.length
  ·obtain ⟨x,hx⟩ : ∃ x,r.E[i]? = some x:=⟨_,List.getElem?_eq_getElem hlt⟩
   have HX:=hid hx
   obtain ⟨go,capo,hvo,-,hgo,hco⟩:=row_at evL_len (L:=r.E) HI.out.ro.er hx
   dsimp only at hvo
   have HVo:=hid hvo
   rw [hvo] at z0
   have x0 : wz.cell? ⟨go,i * 2,none⟩ = some (.int .i64 x.1):=(hco 0 (by omega)).1
   have x1 : wz.cell? ⟨go,i * 2 + 1,none⟩ = some (.int .i64 x.2):=(hco 1 (by omega)).1
   have hii : (i : Int) < (r.E.length : Int):=by omega
   have hkl : (addE r.E (r.E.take i)).length = r.E.length:=keys_len (keys_addE (fun k hk=>by unfold keys at hk ⊢;rw [List.map_take] at hk;exact List.mem_of_mem_take hk))
   have HEn:=hid (entry_any HI.out.rf (by show (addE r.E (r.E.take i)).length ≤ _;rw [hkl];exact hbd) x.1)
   have hm0:=rbd_look (bd_addE (O:=r.E.take i) (l:=r.E) (fun y hy=>HBE.out y (List.mem_of_mem_take hy)) HBE.out) x.1
   obtain ⟨m,hm⟩ : ∃ m,Pf.look 0 (addE r.E (r.E.take i)) x.1 = m:=⟨_,rfl⟩
   rw [hm] at hm0
   have HM:=hid (fun X=>(more_any hm0 (HBE.out x (List.mem_of_getElem? hx)) X))
   obtain ⟨u,hu⟩ : ∃ u,Pf.more m x.2 = u:=⟨_,rfl⟩
   rw [hu] at HM
   have HAt:=hid (Pf.addk_at (d:=(0 : Int)) (addE r.E (r.E.take i)) x.1)
   have HAl:=hid ((Pf.alt_set (d:=(0 : Int)) (addE r.E (r.E.take i)) x.1 (fun y=>Pf.more y x.2)).symm.trans (addE_step hx))
   rw [hm] at HAt HAl
   rw [hu] at HAl
   clear hm hm0 hu hco hvo hx hov
   go_upto_region 5 with (go_at_call 52;go_loud (refine HEn.out.mono ?_;rintro e w2 ⟨ev1,rfl,h1,hc1,hf1⟩;have HI2:=hid (HI.out.stepE (q':=⟨r.pb,ev1,r.jv,r.cv,addk 0 (addE r.E (r.E.take i)) x.1,r.J,r.C⟩) hc1 hf1 rfl rfl h1 rfl);clear h1 hc1 hf1 z0 x0 x1))
   obtain ⟨k,hk⟩ : ∃ k,ix (addE r.E (r.E.take i)) x.1 = k:=⟨_,rfl⟩
   rw [hk] at HAt HAl ⊢
   obtain ⟨g,cap,hv,-,hg,hc⟩:=row_at evL_len HI2.out.rf.er HAt.out
   dsimp only at hv
   have c0 : w2.cell? ⟨r.pb,0,none⟩ = some ev1:=HI2.out.rf.cells.1
   have d1 : w2.cell? ⟨g,k * 2 + 1,none⟩ = some (.int .i64 m):=(hc 1 (by omega)).1
   have d2 : w2.frozen? ⟨g,k * 2 + 1,none⟩ = false:=(hc 1 (by omega)).2
   obtain ⟨go2,capo2,hvo2,-,hgo2,hco2⟩:=row_at evL_len (L:=r.E) HI2.out.ro.er HX.out
   dsimp only at hvo2
   rw [HVo.out] at hvo2
   obtain ⟨e1,-,e2⟩:=Value.slice.inj hvo2
   obtain rfl : go = go2:=by simpa using e1
   have z0 : w2.cell? ⟨pbo,0,none⟩ = some evo:=HI2.out.ro.cells.1
   rw [HVo.out] at z0
   have xn : w2.cell? ⟨go,i * 2 + 1,none⟩ = some (.int .i64 x.2):=(hco2 1 (by omega)).1
   have hil:=(List.getElem?_eq_some_iff.1 HAt.out).1
   have HId:=hid (HI2.out.below (Below.drew (Below.refl _ _)))
   have HP:=hid (HId.out.rf.putE (i:=k) HAt.out hv u)
   obtain ⟨n,hn⟩ : ∃ n,(addk 0 (addE r.E (r.E.take i)) x.1).length = n:=⟨_,rfl⟩
   rw [hn] at hv hil
   subst hv
   have hkk : (k : Int) < (n : Int):=by omega
   have hpw : r.pb < w2.heap.size:=HI2.out.rf.box.sz
   clear hc hk hn hco2 e1 e2 hvo2 HI HEn
   refine wp_region_still_tail 24 (by kernel_rfl) (by kernel_rfl) ?_
   simp only [List.take_succ_cons,List.take_zero,List.drop_succ_cons,List.drop_zero]
   repeat still_step
   still_call (HM.out _)
   repeat still_step
   try refine wpStill_nil ?_
   change wpList _ _ _ _ _ w2.drew
   all_goals
    obtain ⟨hR,hC⟩:=HP.out
    have HI3:=hid (HId.out.stepE (q':=⟨r.pb,.slice (some ⟨g,0,none⟩) n cap,r.jv,r.cv,(addk 0 (addE r.E (r.E.take i)) x.1).set k (x.1,u),r.J,r.C⟩) hC (.inl rfl) rfl rfl hR rfl)
    rw [HAl.out] at HI3
    clear hR hC c0 xn z0 HI2 HP HId
    go_wp2
    go_roundw
    case rel=>exact ⟨i + 1,_,by go_num,by omega,HI3⟩
    case measure=>simp [intOf];omega
  ·obtain rfl : i = r.E.length:=by omega
   have hnl : ¬ (r.E.length : Int) < (r.E.length : Int):=by omega
   have HI1 : Hid (AdI w base r ⟨pbo,evo,jvo,cvo,r.E,r.J,r.C⟩ ⟨r.pb,ev,r.jv,r.cv,addE r.E r.E,addE r.J (r.J.take 0),r.C⟩ wz):=by
    have:=HI.out
    rw [List.take_length] at this
    exact this
   rw [hov] at z0
   clear HI hov
   go_wp2
   go_loopw [7] (fun v wr=>∃ (i : Nat) (jv : Value),v = .int .i64 (i : Int) ∧ i ≤ r.J.length ∧ Hid (AdI w base r ⟨pbo,evo,jvo,cvo,r.E,r.J,r.C⟩ ⟨r.pb,ev,jv,r.cv,addE r.E r.E,addE r.J (r.J.take i),r.C⟩ wr)) (fun v _=>r.J.length - (intOf v).toNat)
   case atStart=>exact ⟨0,_,rfl,Nat.zero_le _,HI1⟩
   case round =>
    clear HI1
    obtain ⟨i,jv,rfl,hi,HI⟩:=hrel
    obtain ⟨wz,hwz⟩ : ∃ wz,wz = wr:=⟨_,rfl⟩
    rw [← hwz] at HI ⊢
    clear hwz
    have hbd:=HbJ.out
    obtain ⟨oa,oc,hov⟩:=own_form HI.out.ro.jr
    dsimp only at hov
    have z0 : wz.cell? ⟨pbo,1,none⟩ = some jvo:=HI.out.ro.cells.2.1
    by_cases hlt : i < r.J.length
    ·obtain ⟨x,hx⟩ : ∃ x,r.J[i]? = some x:=⟨_,List.getElem?_eq_getElem hlt⟩
     have HX:=hid hx
     obtain ⟨go,capo,hvo,-,hgo,hco⟩:=row_at jvL_len (L:=r.J) HI.out.ro.jr hx
     dsimp only at hvo
     have HVo:=hid hvo
     rw [hvo] at z0
     have x0 : wz.cell? ⟨go,i * 3,none⟩ = some (.int .i64 x.1.1):=(hco 0 (by omega)).1
     have x1 : wz.cell? ⟨go,i * 3 + 1,none⟩ = some (.int .i64 x.1.2):=(hco 1 (by omega)).1
     have x2 : wz.cell? ⟨go,i * 3 + 2,none⟩ = some (.int .i64 x.2):=(hco 2 (by omega)).1
     have hii : (i : Int) < (r.J.length : Int):=by omega
     have hkl : (addE r.J (r.J.take i)).length = r.J.length:=keys_len (keys_addE (fun k hk=>by unfold keys at hk ⊢;rw [List.map_take] at hk;exact List.mem_of_mem_take hk))
     have HEn:=hid (jump_any HI.out.rf (by show (addE r.J (r.J.take i)).length ≤ _;rw [hkl];exact hbd) x.1)
     have hm0:=rbd_look (bd_addE (O:=r.J.take i) (l:=r.J) (fun y hy=>HBJ.out y (List.mem_of_mem_take hy)) HBJ.out) x.1
     obtain ⟨m,hm⟩ : ∃ m,Pf.look 0 (addE r.J (r.J.take i)) x.1 = m:=⟨_,rfl⟩
     rw [hm] at hm0
     have HM:=hid (fun X=>(more_any hm0 (HBJ.out x (List.mem_of_getElem? hx)) X))
     obtain ⟨u,hu⟩ : ∃ u,Pf.more m x.2 = u:=⟨_,rfl⟩
     rw [hu] at HM
     have HAt:=hid (Pf.addk_at (d:=(0 : Int)) (addE r.J (r.J.take i)) x.1)
     have HAl:=hid ((Pf.alt_set (d:=(0 : Int)) (addE r.J (r.J.take i)) x.1 (fun y=>Pf.more y x.2)).symm.trans (addE_step hx))
     rw [hm] at HAt HAl
     rw [hu] at HAl
     clear hm hm0 hu hco hvo hx hov
     unfold stV at HEn
     go_upto_region 10 with (go_at_call 54;go_loud (refine HEn.out.mono ?_;rintro e w2 ⟨ev1,rfl,h1,hc1,hf1⟩;have HI2:=hid (HI.out.stepJ (q':=⟨r.pb,ev,ev1,r.cv,addE r.E r.E,addk 0 (addE r.J (r.J.take i)) x.1,r.C⟩) hc1 hf1 rfl rfl h1 rfl);clear h1 hc1 hf1 z0 x0 x1 x2))
     obtain ⟨k,hk⟩ : ∃ k,ix (addE r.J (r.J.take i)) x.1 = k:=⟨_,rfl⟩
     rw [hk] at HAt HAl ⊢
     obtain ⟨g,cap,hv,-,hg,hc⟩:=row_at jvL_len HI2.out.rf.jr HAt.out
     dsimp only at hv
     have c0 : w2.cell? ⟨r.pb,1,none⟩ = some ev1:=HI2.out.rf.cells.2.1
     have d1 : w2.cell? ⟨g,k * 3 + 2,none⟩ = some (.int .i64 m):=(hc 2 (by omega)).1
     have d2 : w2.frozen? ⟨g,k * 3 + 2,none⟩ = false:=(hc 2 (by omega)).2
     obtain ⟨go2,capo2,hvo2,-,hgo2,hco2⟩:=row_at jvL_len (L:=r.J) HI2.out.ro.jr HX.out
     dsimp only at hvo2
     rw [HVo.out] at hvo2
     obtain ⟨e1,-,e2⟩:=Value.slice.inj hvo2
     obtain rfl : go = go2:=by simpa using e1
     have z0 : w2.cell? ⟨pbo,1,none⟩ = some jvo:=HI2.out.ro.cells.2.1
     rw [HVo.out] at z0
     have xn : w2.cell? ⟨go,i * 3 + 2,none⟩ = some (.int .i64 x.2):=(hco2 2 (by omega)).1
     have hil:=(List.getElem?_eq_some_iff.1 HAt.out).1
     have HId:=hid (HI2.out.below (Below.drew (Below.refl _ _)))
     have HP:=hid (HId.out.rf.putJ (i:=k) HAt.out hv u)
     obtain ⟨n,hn⟩ : ∃ n,(addk 0 (addE r.J (r.J.take i)) x.1).length = n:=⟨_,rfl⟩
     rw [hn] at hv hil
     subst hv
     have hkk : (k : Int) < (n : Int):=by omega
     have hpw : r.pb < w2.heap.size:=HI2.out.rf.box.sz
     clear hc hk hn hco2 e1 e2 hvo2 HI HEn
     refine wp_region_still_tail 24 (by kernel_rfl) (by kernel_rfl) ?_
     simp only [List.take_succ_cons,List.take_zero,List.drop_succ_cons,List.drop_zero]
     repeat still_step
     still_call (HM.out _)
     repeat still_step
     try refine wpStill_nil ?_
     change wpList _ _ _ _ _ w2.drew
     all_goals
      obtain ⟨hR,hC⟩:=HP.out
      have HI3:=hid (HId.out.stepJ (q':=⟨r.pb,ev,.slice (some ⟨g,0,none⟩) n cap,r.cv,addE r.E r.E,(addk 0 (addE r.J (r.J.take i)) x.1).set k (x.1,u),r.C⟩) hC (.inl rfl) rfl rfl hR rfl)
      rw [HAl.out] at HI3
      clear hR hC c0 xn z0 HI2 HP HId
      go_wp2
      go_roundw
      case rel=>exact ⟨i + 1,_,by go_num,by omega,HI3⟩
      case measure=>simp [intOf];omega
    ·obtain rfl : i = r.J.length:=by omega
     have hnl : ¬ (r.J.length : Int) < (r.J.length : Int):=by omega
     have HI2 : Hid (AdI w base r ⟨pbo,evo,jvo,cvo,r.E,r.J,r.C⟩ ⟨r.pb,ev,jv,r.cv,addE r.E r.E,addE r.J r.J,r.C⟩ wz):=by
      have:=HI.out
      rw [List.take_length] at this
      exact this
     rw [hov] at z0
     clear HI hov
     go_wp2
     have HD0 : Hid (AdC w base r ⟨pbo,evo,jvo,cvo,r.E,r.J,r.C⟩ ⟨r.pb,ev,jv,r.cv,addE r.E r.E,addE r.J r.J,r.C⟩ (caI r.C 0) wz):=⟨HI2,rfl,rfl,rfl,fun s=>(caI_zero _ _).symm,fun s=>by rw [caI_zero];exact HOk.out s,fun x hx b e=>.inl (.inr (.inr (.inr (.inr ⟨x,hx,e⟩))))⟩
     clear HI2 z0
     go_loopw [9] (fun v wr=>∃ (i : Nat) (q : PR),v = .int .i64 (i : Int) ∧ i ≤ r.C.length ∧ Hid (AdC w base r ⟨pbo,evo,jvo,cvo,r.E,r.J,r.C⟩ q (caI r.C i) wr)) (fun v _=>r.C.length - (intOf v).toNat)
     case atStart=>exact ⟨0,_,rfl,Nat.zero_le _,HD0⟩
     case round =>
      clear HD0
      obtain ⟨i,q,rfl,hi,HD⟩:=hrel
      obtain ⟨wy,hwy⟩ : ∃ wy,wy = wr:=⟨_,rfl⟩
      rw [← hwy] at HD ⊢
      clear hwy
      have hbd:=HbC.out
      obtain ⟨oa,oc,hov⟩:=own_form HD.out.ad.ro.cr
      dsimp only at hov
      have z0 : wy.cell? ⟨pbo,2,none⟩ = some cvo:=HD.out.ad.ro.cells.2.2
      by_cases hlt : i < r.C.length
      ·obtain ⟨x,hx⟩ : ∃ x,r.C[i]? = some x:=⟨_,List.getElem?_eq_getElem hlt⟩
       have HX:=hid hx
       obtain ⟨go,capo,hvo,-,hgo,hco⟩:=row_at cvL_len (L:=r.C) HD.out.ad.ro.cr hx
       dsimp only at hvo
       have HVo:=hid hvo
       rw [hvo] at z0
       have x0 : wy.cell? ⟨go,i * 4,none⟩ = some (.int .i64 x.1.1):=(hco 0 (by omega)).1
       have x1 : wy.cell? ⟨go,i * 4 + 1,none⟩ = some (.int .i64 x.1.2):=(hco 1 (by omega)).1
       have hii : (i : Int) < (r.C.length : Int):=by omega
       obtain ⟨wb,hwb⟩ : ∃ wb,wb = wy.alloc (.cells #[.int .i64 x.1.1,.int .i64 x.1.2] 29):=⟨_,rfl⟩
       have hbb : Below wy.heap.size wy wb:=by rw [hwb];exact (Below.refl _ _).alloc (Nat.le_refl _) _
       have bxs : BX wb wy.heap.size #[.int .i64 x.1.1,.int .i64 x.1.2] 29:=by rw [hwb];exact BX.new wy _ _
       have HWy : Hid (r.pb < wy.heap.size ∧ wy.heap.size ≤ wb.heap.size):=⟨Nat.lt_of_lt_of_le HD.out.ad.rp HD.out.ad.ch.size,hbb.size⟩
       have HDb:=hid (HD.out.below hbb)
       have HBs:=hid bxs
       have HCs:=hid (rClasses_any HDb.out.ad.ro hbd x.1 (HOk.out x.1))
       have b0 : wb.cell? ⟨wy.heap.size,0,none⟩ = some (.int .i64 x.1.1):=bxs.cell 0
       have b1 : wb.cell? ⟨wy.heap.size,1,none⟩ = some (.int .i64 x.1.2):=bxs.cell 1
       have HWb:=hid hwb
       have HSt:=hid (caI_step HNd.out hx)
       have hlx : Pf.look ce0 r.C x.1 = x.2:=Pf.look_mem HNd.out (List.mem_of_getElem? hx)
       have HLx:=hid hlx
       dsimp only at HCs
       rw [hlx] at HCs
       obtain ⟨L,hL⟩ : ∃ L,Pf.srt x.2.2.1 = L:=⟨_,rfl⟩
       have HLL:=hid hL
       rw [hL] at HCs
       unfold stV at HCs
       clear hco hvo hx hov hwb hbb bxs HD hlx hL
       go_upto_region 15 with fail
       rw [← HWb.out]
       clear x0 x1
       go_upto_region 16 with (go_at_call 38;go_loud (refine HCs.out.mono ?_;rintro e w2 ⟨v,rfl,ho,hb⟩;obtain ⟨la,lc,h9⟩:=own_form ho;subst h9;have HO:=hid ho;have HD2:=hid (HDb.out.below hb);have HB2:=hid (HBs.out.below hb);have hb9:=hb;clear ho hb b0 b1 z0))
       have HF0 : Hid (AdC w base r ⟨pbo,evo,jvo,cvo,r.E,r.J,r.C⟩ q (fun y=>if y = x.1 then Pf.fold (caI r.C i x.1) (L.take 0) else caI r.C i y) w2):=HD2.out.cg (fun s=>by
        by_cases e : s = x.1
        ·rw [if_pos e,e];rfl
        ·rw [if_neg e])
       clear HD2
       clear hb9
       have hL4 : L.length ≤ 4:=by
        rw [← HLL.out,Pf.srt_len]
        have:=HOk.out x.1
        rw [HLx.out] at this
        exact this.ln
       go_wp2
       go_loopw [12] (fun v wr=>∃ (j : Nat) (q : PR),v = .int .i64 (j : Int) ∧ j ≤ L.length ∧ Hid (AdC w base r ⟨pbo,evo,jvo,cvo,r.E,r.J,r.C⟩ q (fun y=>if y = x.1 then Pf.fold (caI r.C i x.1) (L.take j) else caI r.C i y) wr) ∧ Hid (wr.ownsRow wb.heap.size 44 2 (.slice la L.length lc) L.length (L.flatMap evL)) ∧ Hid (BX wr wy.heap.size #[.int .i64 x.1.1,.int .i64 x.1.2] 29)) (fun v _=>L.length - (intOf v).toNat)
       case atStart=>exact ⟨0,_,rfl,Nat.zero_le _,HF0,HO,HB2⟩
       case round =>
        clear HF0 HO HB2
        obtain ⟨j,q,rfl,hj,HD,HO,HB⟩:=hrel
        obtain ⟨wx,hwx⟩ : ∃ wx,wx = wr:=⟨_,rfl⟩
        rw [← hwx] at HD HO HB ⊢
        clear hwx
        have b0 : wx.cell? ⟨wy.heap.size,0,none⟩ = some (.int .i64 x.1.1):=HB.out.cell 0
        have b1 : wx.cell? ⟨wy.heap.size,1,none⟩ = some (.int .i64 x.1.2):=HB.out.cell 1
        by_cases hl2 : j < L.length
        ·obtain ⟨y,hy⟩ : ∃ y,L[j]? = some y:=⟨_,List.getElem?_eq_getElem hl2⟩
         obtain ⟨gs,caps,hvs,-,hgs,hcs⟩:=row_at evL_len HO.out hy
         obtain ⟨e1,-,e2⟩:=Value.slice.inj hvs
         subst e1
         subst e2
         have y0 : wx.cell? ⟨gs,j * 2,none⟩ = some (.int .i64 y.1):=(hcs 0 (by omega)).1
         have y1 : wx.cell? ⟨gs,j * 2 + 1,none⟩ = some (.int .i64 y.2):=(hcs 1 (by omega)).1
         have hjj : (j : Int) < (L.length : Int):=by omega
         have HY:=hid (fold_step' (c:=caI r.C i x.1) hy)
         have hs : x.1 ∈ keys r.C:=by unfold keys;exact List.mem_map_of_mem (List.mem_of_getElem? HX.out)
         have hby : Pf.Bd y.2:=by
          have h1:=List.mem_of_getElem? hy
          rw [← HLL.out] at h1
          have h2:=(Pf.srt_perm _).mem_iff.1 h1
          have h3:=HOk.out x.1
          rw [HLx.out] at h3
          exact h3.bd y h2
         have hok1:=HD.out.ok x.1
         have hdr : Below wx.heap.size wx wx.drew:=Below.drew (Below.refl _ _)
         have HDd:=hid (HD.out.below hdr)
         have HOd:=hid (Kit.owns_below HO.out hdr (Nat.le_refl _))
         have HBd:=hid (HB.out.below hdr)
         have HCt:=hid (rcount_any HDd.out.ad.rf (by have:=keys_len HDd.out.kc;have:=HbC.out;omega) x.1 (by rw [HDd.out.eq];exact hok1) y.1 hby)
         have HTn:=hid (fun X cv' v' hr hc hf hv=>HDd.out.turn (X:=X) (cv':=cv') (v':=v') (s:=x.1) hs (g:=fun c=>Pf.cnt c y.1 y.2) (Pf.okC_cnt hok1 hby) hr hc hf hv)
         have HMv:=hid (fun X (c : Chg (Own1 q.pb q.cv) wx.drew X)=>(⟨owns_chg HOd.out c (fun k e e2=>by
          rcases e2 with e2|e2
          ·have:=Kit.own_base HOd.out k e
           have:=HWy.out
           have:=HDd.out.ad.pb
           omega
          ·exact own_unlike HOd.out HDd.out.ad.rf.cr (by decide) k e e2),HBd.out.chg c (fun e=>by
          rcases e with e|e
          ·have:=HWy.out
           have:=HDd.out.ad.pb
           omega
          ·exact own_unlike_box HDd.out.ad.rf.cr HBd.out (by decide) e)⟩ : X.ownsRow wb.heap.size 44 2 (.slice (some ⟨gs,0,none⟩) L.length lc) L.length (L.flatMap evL) ∧ BX X wy.heap.size #[.int .i64 x.1.1,.int .i64 x.1.2] 29))
         have hqp:=HDd.out.ad.pb
         unfold stV CntPost at HCt
         rw [hqp] at HCt HTn HMv
         clear hvs hcs hy hby hok1 hqp hdr
         go_upto_region 19 with fail
         refine wp_region_still_tail 12 (by kernel_rfl) (by kernel_rfl) ?_
         simp only [List.take_succ_cons,List.take_zero,List.drop_succ_cons,List.drop_zero]
         repeat still_step
         try refine wpStill_nil ?_
         change wpList _ _ _ _ _ wx.drew
         all_goals
          clear b0 b1 y0 y1
          go_wp2_with (go_at_call 55;go_loud (refine HCt.out.mono ?_;rintro e w3 ⟨rfl,cv1,v1,h1,hc1,hf1,hv1⟩;have HT:=hid (HTn.out w3 cv1 v1 h1 hc1 hf1 hv1);have HMo:=hid (HMv.out w3 hc1);clear h1 hc1 hf1 hv1))
          go_roundw
          case rel=>exact ⟨j + 1,_,by go_num,by omega,HT.out.cg (fun z=>by
           by_cases e : z = x.1
           ·simp only [e,if_true]
            exact HY.out
           ·simp only [e,if_false]),HMo.out.1,HMo.out.2⟩
          case measure=>simp [intOf];omega
        ·obtain rfl : j = L.length:=by omega
         have hnj : ¬ (L.length : Int) < (L.length : Int):=by omega
         obtain ⟨go2,capo2,hvo2,-,hgo2,hco2⟩:=row_at cvL_len (L:=r.C) HD.out.ad.ro.cr HX.out
         dsimp only at hvo2
         rw [HVo.out] at hvo2
         obtain ⟨e1,-,e2⟩:=Value.slice.inj hvo2
         obtain rfl : go = go2:=by simpa using e1
         have z0 : wx.cell? ⟨pbo,2,none⟩ = some cvo:=HD.out.ad.ro.cells.2.2
         rw [HVo.out] at z0
         have x3 : wx.cell? ⟨go,i * 4 + 3,none⟩ = some (.bool x.2.2.2):=(hco2 3 (by omega)).1
         obtain ⟨mg,hmg⟩ : ∃ mg,x.2.2.2 = mg:=⟨_,rfl⟩
         rw [hmg] at x3
         clear hvo2 hco2 e1 e2
         cases mg
         ·have HE:=hid (HD.out.cg (ca':=caI r.C (i + 1)) (fun z=>by
           rw [HSt.out z]
           by_cases e : z = x.1
           ·rw [if_pos e,if_pos e,List.take_length,HLx.out]
            unfold Pf.merge
            rw [HLL.out,hmg,Bool.or_false]
           ·rw [if_neg e,if_neg e]))
          clear HD hmg
          go_wp2
          exact ⟨⟨i + 1,_,by go_num,by omega,HE⟩,by simp [intOf];omega⟩
         ·have hs : x.1 ∈ keys r.C:=by unfold keys;exact List.mem_map_of_mem (List.mem_of_getElem? HX.out)
          have hix : ix q.C x.1 < q.C.length:=(Pf.ix_keys _ _).2 (by rw [HD.out.kc];exact hs)
          have HAt:=hid (Pf.look_at (d:=ce0) hix)
          have HAl:=hid (fun g=>Pf.alt_set (d:=ce0) q.C x.1 g)
          have HCa:=hid (calls_any HD.out.ad.rf (by have:=keys_len HD.out.kc;have:=HbC.out;omega) x.1)
          have hAk:=Pf.addk_here (d:=ce0) hix
          have hok1:=HD.out.ok x.1
          have HTn:=hid (fun X cv' hr hc hf=>HD.out.turn (X:=X) (cv':=cv') (v':=(Pf.look ce0 q.C x.1).1) (s:=x.1) hs (g:=fun c=>(c.1,true)) ⟨hok1.nd,hok1.bd,hok1.ln⟩ hr hc hf (.inl rfl))
          have hqp:=HD.out.ad.pb
          have HMg:=hid hmg
          unfold stV CaPost at HCa
          rw [hAk] at HCa HAl
          rw [hqp] at HCa HTn
          obtain ⟨k,hk⟩ : ∃ k,ix q.C x.1 = k:=⟨_,rfl⟩
          rw [hk] at HAt HCa HAl hix
          have hki : (k : Int) < (q.C.length : Int):=by omega
          clear hok1 hqp hk hAk hmg
          go_upto_region 22 with (go_at_call 57;go_loud (refine HCa.out.mono ?_;rintro e w3 ⟨v1,rfl,h1,hc1,hf1⟩;obtain ⟨g,cap,hv,-,hg,hcl⟩:=row_at cvL_len h1.cr HAt.out;dsimp only at hv;have c0 : w3.cell? ⟨r.pb,2,none⟩ = some v1:=h1.cells.2.2;rw [hv] at c0;have d3:=(hcl 3 (by omega)).1;have f3:=(hcl 3 (by omega)).2;have HPt:=hid (h1.putC (j:=3) (c':=((Pf.look ce0 q.C x.1).1,(Pf.look ce0 q.C x.1).2.1,true)) (u:=.bool true) HAt.out hv (by omega) rfl (h1.lr _ (List.mem_of_getElem? HAt.out)));have HC1:=hid hc1;have HF1:=hid hf1;have HV:=hid hv;have hpw : r.pb < w3.heap.size:=h1.box.sz;clear h1 hc1 hf1 hv hcl b0 b1 z0 x3))
          go_wp2
          obtain ⟨hR,hC⟩:=HPt.out
          exact ⟨⟨i + 1,_,by go_num,by omega,(HTn.out _ v1 (by rw [HAl.out];exact hR) (Own1.trans HC1.out HF1.out hC) HF1.out).cg (fun z=>by
           rw [HSt.out z]
           by_cases e : z = x.1
           ·simp only [e,if_true,List.take_length,HLx.out]
            unfold Pf.merge
            rw [HLL.out,HMg.out,Bool.or_true]
           ·simp only [e,if_false])⟩,by simp [intOf];omega⟩
      ·obtain rfl : i = r.C.length:=by omega
       have hnl : ¬ (r.C.length : Int) < (r.C.length : Int):=by omega
       rw [hov] at z0
       go_wp2
       try simp only [Exit.inBlock,Exit.then]
       have H:=HD.out
       refine bodyPost_ret (v:=.tuple #[]) (by simp [results,Try.results32,go_sem]) rfl (AddPost.is q ⟨H.ad.rf,H.ad.pb,H.qE,H.qJ,H.kc,fun s=>(H.eq s).trans (caI_all _ s),H.ad.ch,?_⟩)
       rintro b (e|e|e|e|⟨x,hx,e⟩)
       ·exact .inl (.inl (e.trans H.ad.pb))
       ·exact H.ad.ee b e
       ·exact H.ad.ej b e
       ·exact H.ad.ec b e
       ·exact H.lo x hx b e
end Go.Proofs.Ytfphiomhlhpphaa
namespace Go.Proofs.Ytfphiomhlhpphaa
open Go Go.RowKit
open Pf (Site Sn ix addk alt keys)
set_option maxRecDepth 100000
set_option maxHeartbeats 2000000
def PR.st (r : PR) : Pf.St:=⟨Pf.look 0 r.E,Pf.look 0 r.J,fun x=>(Pf.look ce0 r.C x).2⟩
section
variable {w w' : World} {base n : Nat} {r : PR}
theorem bd_in {κ : Type} [DecidableEq κ] {L : List (κ × Int)} (hn : (keys L).Nodup) (hb : ∀ x ∈ L,Pf.Bd x.2) (k : κ) : Pf.Bd (Pf.look 0 L k):=by
 by_cases hk : k ∈ keys L
 ·exact hb _ (Pf.mem_look_iff (d:=(0 : Int)) hn hk)
 ·rw [Pf.look_not hk]
  exact Pf.bd0
theorem bd_alt {κ : Type} [DecidableEq κ] {L : List (κ × Int)} (hn : (keys L).Nodup) (hb : ∀ x ∈ L,Pf.Bd x.2) (k : κ) {m : Int} (hm : Pf.Bd m) : ∀ x ∈ alt 0 L k (fun y=>Pf.more y m),Pf.Bd x.2:=by
 intro x hx
 rw [Pf.alt_const] at hx
 rcases alt_is hn hx with ⟨-,e⟩|⟨-,hx⟩
 ·rw [e]
  exact Pf.more_bd (bd_in hn hb k) hm
 ·exact hb x hx
theorem Good.okc (g : Good r n) (s : Site) : Pf.OkC (Pf.look ce0 r.C s).2:=by
 by_cases hk : s ∈ keys r.C
 ·have:=g.bc _ (Pf.mem_look_iff (d:=ce0) g.nc hk)
  exact ⟨this.2.1,this.1,this.2.2⟩
 ·rw [Pf.look_not hk]
  exact Pf.okC0
def StepR (w w' : World) (base : Nat) (r : PR) (n : Nat) (t : Pf.St) : Prop:=∃ r',RefR w' base r' ∧ Good r' n ∧ r'.st = t ∧ r'.pb = r.pb ∧ Chg r.foot w w' ∧ ∀ i,r'.foot i → r.foot i ∨ w.heap.size ≤ i
theorem fresh_or {v v' : Value} (h : Fresh w v v') {i : Nat} (hi : v'.ownBlock = some i) : v.ownBlock = some i ∨ w.heap.size ≤ i:=by
 rcases h with e|⟨g,e,hg⟩
 ·exact .inl (e ▸ hi)
 ·rw [hi] at e
  exact .inr (Option.some.inj e ▸ hg)
theorem enterR (h : RefR w base r) (g : Good r n) (hn : n < 2932031007340) (f : Int) : Calls Try.prog 28 #[.pointer (some ⟨r.pb,0,none⟩),.int .i64 f] w fun e w' =>
  e = .returned (.int .i64 (Pf.more (r.st.en f) 1)) ∧ StepR w w' base r (n + 1) (r.st.enter f):=by
 refine (rEnter_any h (by have:=g.le;omega) f (bd_in g.ne g.be f)).mono ?_
 rintro e w' ⟨v',rfl,h1,h2,h3⟩
 refine ⟨rfl,_,h1,⟨Pf.nodup_alt g.ne f _,g.nj,g.nc,bd_alt g.ne g.be f Pf.bd1,g.bj,g.bc,Nat.le_trans (Pf.alt_le r.E f _).2 (Nat.succ_le_succ g.le),Nat.le_succ_of_le g.lj,Nat.le_succ_of_le g.lc⟩,?_,rfl,h2.mono (fun i _ e=>e.elim .inl (fun e=>.inr (.inl e))),?_⟩
 ·show (⟨_,_,_⟩ : Pf.St) = ⟨_,_,_⟩
  congr 1
  funext k
  show Pf.look 0 (alt 0 r.E f _) k = _
  rw [Pf.look_alt]
  rfl
 ·rintro i (e|e|e|e|e)
  ·exact .inl (.inl e)
  ·exact (fresh_or h3 e).imp (fun e=>.inr (.inl e)) id
  ·exact .inl (.inr (.inr (.inl e)))
  ·exact .inl (.inr (.inr (.inr (.inl e))))
  ·exact .inl (.inr (.inr (.inr (.inr e))))
theorem backR (h : RefR w base r) (g : Good r n) (hn : n < 2932031007340) (f : Site) : Calls Try.prog 29 #[.pointer (some ⟨r.pb,0,none⟩),stV f] w fun e w' =>
  e = .returned (.int .i64 (Pf.more (r.st.ju f) 1)) ∧ StepR w w' base r (n + 1) (r.st.back f):=by
 refine (rBack_any h (by have:=g.lj;omega) f (bd_in g.nj g.bj f)).mono ?_
 rintro e w' ⟨v',rfl,h1,h2,h3⟩
 refine ⟨rfl,_,h1,⟨g.ne,Pf.nodup_alt g.nj f _,g.nc,g.be,bd_alt g.nj g.bj f Pf.bd1,g.bc,Nat.le_succ_of_le g.le,Nat.le_trans (Pf.alt_le r.J f _).2 (Nat.succ_le_succ g.lj),Nat.le_succ_of_le g.lc⟩,?_,rfl,h2.mono (fun i _ e=>e.elim .inl (fun e=>.inr (.inr (.inl e)))),?_⟩
 ·show (⟨_,_,_⟩ : Pf.St) = ⟨_,_,_⟩
  congr 1
  funext k
  show Pf.look 0 (alt 0 r.J f _) k = _
  rw [Pf.look_alt]
  rfl
 ·rintro i (e|e|e|e|e)
  ·exact .inl (.inl e)
  ·exact .inl (.inr (.inl e))
  ·exact (fresh_or h3 e).imp (fun e=>.inr (.inr (.inl e))) id
  ·exact .inl (.inr (.inr (.inr (.inl e))))
  ·exact .inl (.inr (.inr (.inr (.inr e))))
theorem callR (h : RefR w base r) (g : Good r n) (hn : n < 2932031007340) (s : Site) (k : Int) : Calls Try.prog 30 #[.pointer (some ⟨r.pb,0,none⟩),stV s,.int .i64 k] w fun e w' =>
  e = .returned (.int .i64 (Pf.kind (Pf.cnt (r.st.ca s) k 1))) ∧ StepR w w' base r (n + 1) (r.st.call s k 1):=by
 refine (rCall_any h (by have:=g.lc;omega) s (g.okc s) k).mono ?_
 rintro e w' ⟨rfl,cv',v',h1,h2,h3,h4⟩
 have hm : ∀ x ∈ alt ce0 r.C s (fun c=>(v',Pf.cnt c.2 k 1)),(x.1 = s ∧ x.2 = (v',Pf.cnt (Pf.look ce0 r.C s).2 k 1)) ∨ (x.1 ≠ s ∧ x ∈ r.C):=fun x hx=>by
  rw [Pf.alt_const] at hx
  exact alt_is g.nc hx
 refine ⟨rfl,_,h1,⟨g.ne,g.nj,Pf.nodup_alt g.nc s _,g.be,g.bj,fun x hx=>?_,Nat.le_succ_of_le g.le,Nat.le_succ_of_le g.lj,Nat.le_trans (Pf.alt_le r.C s _).2 (Nat.succ_le_succ g.lc)⟩,?_,rfl,h2.mono (fun i _ e=>e.elim .inl (fun e=>.inr (.inr (.inr (.inl e))))),?_⟩
 ·rcases hm x hx with ⟨-,e⟩|⟨-,hx⟩
  ·rw [e]
   have:=Pf.okC_cnt (g.okc s) (k:=k) Pf.bd1
   exact ⟨this.bd,this.nd,this.ln⟩
  ·exact g.bc x hx
 ·show (⟨_,_,_⟩ : Pf.St) = ⟨_,_,_⟩
  congr 1
  funext y
  show (Pf.look ce0 (alt ce0 r.C s _) y).2 = if y = s then _ else _
  rw [Pf.look_alt]
  by_cases e : y = s
  ·rw [if_pos e,if_pos e]
   rfl
  ·rw [if_neg e,if_neg e]
   rfl
 ·rintro i (e|e|e|e|⟨x,hx,e⟩)
  ·exact .inl (.inl e)
  ·exact .inl (.inr (.inl e))
  ·exact .inl (.inr (.inr (.inl e)))
  ·exact (fresh_or h3 e).imp (fun e=>.inr (.inr (.inr (.inl e)))) id
  ·rcases hm x hx with ⟨-,e2⟩|⟨-,hx⟩
   ·rw [e2] at e
    rcases h4 with e3|h4
    ·rw [show ((v',Pf.cnt (Pf.look ce0 r.C s).2 k 1) : Ce).1 = v' from rfl,e3] at e
     by_cases hk : s ∈ keys r.C
     ·exact .inl (.inr (.inr (.inr (.inr ⟨_,Pf.mem_look_iff (d:=ce0) g.nc hk,e⟩))))
     ·rw [Pf.look_not hk] at e
      cases e
    ·exact .inr (h4 i e)
   ·exact .inl (.inr (.inr (.inr (.inr ⟨x,hx,e⟩))))
theorem forgetR (h : RefR w base r) (g : Good r n) (hn : n < 2932031007340) (f : Int) : Calls Try.prog 31 #[.pointer (some ⟨r.pb,0,none⟩),.int .i64 f] w fun e w' =>
  e = .returned (.tuple #[]) ∧ StepR w w' base r n (r.st.forget f):=by
 refine (rForget_any h (by have:=g.le;omega) (by have:=g.lj;omega) (by have:=g.lc;omega) f).mono ?_
 rintro e w' ⟨rfl,ev,jv,cv,h1,h2,h3⟩
 refine ⟨rfl,_,h1,⟨Pf.nodup_filter g.ne _,Pf.nodup_filter g.nj _,Pf.nodup_filter g.nc _,fun x hx=>g.be x (List.mem_filter.1 hx).1,fun x hx=>g.bj x (List.mem_filter.1 hx).1,fun x hx=>g.bc x (List.mem_filter.1 hx).1,Nat.le_trans (List.length_filter_le _ _) g.le,Nat.le_trans (List.length_filter_le _ _) g.lj,Nat.le_trans (List.length_filter_le _ _) g.lc⟩,?_,rfl,h2.mono (fun i _ e=>.inl e),?_⟩
 ·show (⟨_,_,_⟩ : Pf.St) = ⟨_,_,_⟩
  congr 1
  ·funext k
   show Pf.look 0 (r.E.filter (fun x=>kpI f x.1)) k = _
   rw [Pf.look_filter r.E (kpI f) k]
   unfold kpI
   by_cases e : k = f
   ·rw [if_neg (by simp [e]),if_pos e]
   ·rw [if_pos (by simp [e]),if_neg e]
    rfl
  ·funext k
   show Pf.look 0 (r.J.filter (fun x=>kpS f x.1)) k = _
   rw [Pf.look_filter r.J (kpS f) k]
   unfold kpS
   by_cases e : k.1 = f
   ·rw [if_neg (by simp [e]),if_pos e]
   ·rw [if_pos (by simp [e]),if_neg e]
    rfl
  ·funext k
   show (Pf.look ce0 (r.C.filter (fun x=>kpS f x.1)) k).2 = _
   rw [Pf.look_filter r.C (kpS f) k]
   unfold kpS
   by_cases e : k.1 = f
   ·rw [if_neg (by simp [e]),if_pos e]
    rfl
   ·rw [if_pos (by simp [e]),if_neg e]
    rfl
 ·rintro i (e|e|e|e|⟨x,hx,e⟩)
  ·exact .inl (.inl e)
  ·exact .inr (h3 i (.inl e))
  ·exact .inr (h3 i (.inr (.inl e)))
  ·exact .inr (h3 i (.inr (.inr e)))
  ·exact .inl (.inr (.inr (.inr (.inr ⟨x,(List.mem_filter.1 hx).1,e⟩))))
theorem addR (h : RefR w base r) (g : Good r n) (hn : n < 2932031007340) : Calls Try.prog 32 #[.pointer (some ⟨r.pb,0,none⟩),.pointer (some ⟨r.pb,0,none⟩)] w fun e w' =>
  e = .returned (.tuple #[]) ∧ StepR w w' base r n (r.st.add r.st):=by
 refine (rAdd_any h (by have:=g.le;omega) (by have:=g.lj;omega) (by have:=g.lc;omega) g.be g.bj g.nc g.okc).mono ?_
 rintro e w' ⟨rfl,q,h1,h2,hE,hJ,hC,hm,hc,hf⟩
 have kE : keys q.E = keys r.E:=by rw [hE];exact keys_addE (fun k hk=>hk)
 have kJ : keys q.J = keys r.J:=by rw [hJ];exact keys_addE (fun k hk=>hk)
 have hlen : ∀ {κ β γ : Type} {A : List (κ × β)} {B : List (κ × γ)},keys A = keys B → A.length = B.length:=fun e=>by
  have:=congrArg List.length e
  rwa [keys_size,keys_size] at this
 refine ⟨rfl,q,h1,⟨kE ▸ g.ne,kJ ▸ g.nj,hC ▸ g.nc,by rw [hE];exact bd_addE g.be g.be,by rw [hJ];exact bd_addE g.bj g.bj,fun x hx=>?_,by rw [hlen kE];exact g.le,by rw [hlen kJ];exact g.lj,by rw [hlen hC];exact g.lc⟩,?_,h2,hc,hf⟩
 ·have e:=hm x.1
  rw [Pf.look_mem (hC ▸ g.nc) hx] at e
  rw [e]
  have:=Pf.okC_merge (g.okc x.1) (g.okc x.1)
  exact ⟨this.bd,this.nd,this.ln⟩
 ·show (⟨_,_,_⟩ : Pf.St) = ⟨_,_,_⟩
  congr 1
  ·funext k
   show Pf.look 0 q.E k = _
   rw [hE]
   have:=Pf.look_fold (d:=(0 : Int)) (fun y x=>Pf.more y x.2) r.E g.ne r.E k
   refine (show Pf.look 0 (addE r.E r.E) k = _ from this).trans ?_
   by_cases hk : k ∈ keys r.E
   ·rw [if_pos hk]
    rfl
   ·rw [if_neg hk]
    show Pf.look 0 r.E k = Pf.more (Pf.look 0 r.E k) (Pf.look 0 r.E k)
    rw [Pf.look_not hk,more00]
  ·funext k
   show Pf.look 0 q.J k = _
   rw [hJ]
   have:=Pf.look_fold (d:=(0 : Int)) (fun y x=>Pf.more y x.2) r.J g.nj r.J k
   refine (show Pf.look 0 (addE r.J r.J) k = _ from this).trans ?_
   by_cases hk : k ∈ keys r.J
   ·rw [if_pos hk]
    rfl
   ·rw [if_neg hk]
    show Pf.look 0 r.J k = Pf.more (Pf.look 0 r.J k) (Pf.look 0 r.J k)
    rw [Pf.look_not hk,more00]
  ·funext k
   exact hm k
end
end Go.Proofs.Ytfphiomhlhpphaa
namespace Go.Proofs.Ytfphiomhlhpphaa
open Go Go.RowKit
open Pf (Site Sn ix addk alt keys)
theorem sn_at {w : World} {v : Value} {l : List Sn} (h : Kit.IsS 2 w v l.length (l.flatMap evL)) {k : Nat} {x : Sn} (hx : l[k]? = some x) : ∃ b o cap,v = .slice (some ⟨b,o,none⟩) l.length cap ∧ w.cell? ⟨b,o + k * 2,none⟩ = some (.int .i64 x.1) ∧ w.cell? ⟨b,o + k * 2 + 1,none⟩ = some (.int .i64 x.2):=by
 have hlt : k < l.length:=(List.getElem?_eq_some_iff.1 hx).1
 obtain ⟨b,o,cap,hv,-,-,hc⟩:=h.some (by omega)
 have h0:=Kit.flat_at (f:=evL) (s:=2) evL_len hx 0 (by omega)
 have h1:=Kit.flat_at (f:=evL) (s:=2) evL_len hx 1 (by omega)
 exact ⟨b,o,cap,hv,hc (k * 2) _ h0,Nat.add_assoc o (k * 2) 1 ▸ hc (k * 2 + 1) _ h1⟩
set_option maxHeartbeats 400000 in
theorem equalSn_any (l : List Sn) (v u : Value) (w : World) (hv : Kit.IsS 2 w v l.length (l.flatMap evL)) (hu : Kit.IsS 2 w u l.length (l.flatMap evL)) :
  Calls Try.prog 37 #[v,u] w fun e w'=>e = .returned (.bool true) ∧ Below w.heap.size w w':=by
 have HV:=hid hv
 have HU:=hid hu
 obtain ⟨a1,cap1,hv2⟩:=hv.len
 obtain ⟨a2,cap2,hu2⟩:=hu.len
 subst hv2 hu2
 have hlen:=hv.2.1
 clear hv hu
 go_enter Try.func37,Try.ntmps37
 go_wp2
 go_loopw [13] (fun i wr=>∃ k : Nat,k ≤ l.length ∧ i = .int .i64 k ∧ Below w.heap.size w wr) (fun i _=>l.length - (intOf i).toNat)
 case atStart=>exact ⟨0,by omega,rfl,BLw⟩
 case round =>
  obtain ⟨k,hk,rfl,hbl⟩:=hrel
  have hbz:=hbl.size
  by_cases hlt : k < l.length
  ·obtain ⟨x,hx⟩ : ∃ x,l[k]? = some x:=⟨l[k],List.getElem?_eq_getElem hlt⟩
   obtain ⟨b,o,cap',hv,c0,c1⟩:=sn_at (HV.out.below hbl (Nat.le_refl _)) hx
   obtain ⟨rfl,-,rfl⟩:=Value.slice.inj hv
   obtain ⟨b',o',cap',hv',d0,d1⟩:=sn_at (HU.out.below hbl (Nat.le_refl _)) hx
   obtain ⟨rfl,-,rfl⟩:=Value.slice.inj hv'
   have i1 : (k : Int) < (l.length : Int):=by omega
   clear hx hv hv'
   go_wp2
   go_quiet (fail)
   go_wp2
   go_roundw
   case rel=>exact ⟨k + 1,by omega,by go_num,BLw⟩
   case measure=>simp [intOf];omega
  ·obtain rfl : k = l.length:=by omega
   go_wp2
   go_ret
   exact ⟨rfl,BLw⟩
end Go.Proofs.Ytfphiomhlhpphaa
namespace Go.Proofs.Ytfphiomhlhpphaa
open Go Go.RowKit
open Pf (Site Sn ix addk alt keys)
attribute [local go_sem] Oper.semAt_some
theorem abides_new {β : Type} {B : Nat} {J : β → World → Prop} (h : AbidesFrom B J) {s : β} {W W' : World} (hs : J s W) (hb : Below W.heap.size W W') : J s W' :=
 h s W W' none hs ⟨hb.os,hb.tape,hb.output,hb.size,fun i hi _=>hb.block i hi⟩ (fun r e=>by cases e)
def Ks (S : Nat → Prop) (A B : World) : Prop:=A.heap.size ≤ B.heap.size ∧ ∀ k,S k → B.heap[k]? = A.heap[k]?
theorem Ks.refl (S : Nat → Prop) (A : World) : Ks S A A:=⟨Nat.le_refl _,fun _ _=>rfl⟩
theorem Ks.trans {S : Nat → Prop} {A B C : World} (h : Ks S A B) (k : Ks S B C) : Ks S A C:=⟨Nat.le_trans h.1 k.1,fun i h1=>(k.2 i h1).trans (h.2 i h1)⟩
theorem Ks.below {S : Nat → Prop} {n : Nat} {A B C : World} (h : Ks S A B) (hb : Below n B C) (hn : ∀ k,S k → k < n) : Ks S A C:=h.trans ⟨hb.size,fun i h2=>hb.block i (hn i h2)⟩
theorem Ks.putObj {S : Nat → Prop} {w : World} (hn : ∀ k,S k → k < w.heap.size) (W : World) (l : Nat) (o o' : Obj) (hl : w.heap.size ≤ l) (h : W.heap[l]? = some o) (_ : o.isCells = false) (_ : o.isWalk = false) : Ks S W (W.putObj l o') :=
 ⟨(grownBy_putObj' W l o').size,fun i hi=>(grownBy_putObj' W l o').block i (by have:=hn i hi;have:=(Array.getElem?_eq_some_iff.1 h).1;omega) (fun e=>by cases e;have:=hn _ hi;omega)⟩
abbrev Tx (l : List Int):={ x : Nat × Int // l[x.1]? = some x.2 }
def told (l : List Int) : Nat → List (Tx l)
 | 0=>[]
 | k + 1=>told l k ++ (match h : l[k]? with|some c=>[⟨(k,c),h⟩]|none=>[])
theorem told_yes {l : List Int} {k : Nat} {c : Int} (h : l[k]? = some c) : told l (k + 1) = told l k ++ [⟨(k,c),h⟩]:=by
 show told l k ++ _ = _
 congr 1
 split
 ·rename_i d hd
  obtain rfl:=Option.some.inj (hd.symm.trans h)
  rfl
 ·rename_i hd
  rw [hd] at h
  cases h
theorem told_len (l : List Int) : ∀ k,k ≤ l.length → (told l k).length = k
 | 0,_=>rfl
 | k + 1,h=>by
  have hk : l[k]? = some l[k]:=List.getElem?_eq_getElem (by omega)
  rw [told_yes hk,List.length_append,told_len l k (by omega)]
  rfl
theorem told_last {l : List Int} {k : Nat} {pre : List (Tx l)} {x : Tx l} (hk : k ≤ l.length) (h : told l k = pre ++ [x]) : x.1.1 = pre.length:=by
 cases k with
 | zero =>
  have:=congrArg List.length h
  simp [told] at this
 | succ k =>
  have h1 : l[k]? = some l[k]:=List.getElem?_eq_getElem (by omega)
  rw [told_yes h1] at h
  obtain ⟨e1,e2⟩:=List.append_inj' h rfl
  have e3:=told_len l k (by omega)
  rw [e1] at e3
  simp only [List.cons.injEq,and_true] at e2
  rw [← e2]
  exact e3.symm
def entE {l : List Int} (x : Tx l) : Array Value:=#[.int .i64 x.1.2]
set_option maxHeartbeats 1000000 in
theorem hot1_stops (Rw : List Sn) (v : Value) (S : Nat → Prop) (Bs n : Nat) (w : World) (hn : 1 ≤ n) (hhi : ∀ k,S k → k < w.heap.size) (hln : Rw.length < 1000000000000000) (hb : ∀ X,Ks S w X → Kit.IsS 2 X v Rw.length (Rw.flatMap evL) ∧ X.cell? ⟨Bs,0,none⟩ = some v) :
  SeqStopsK Fence.wide n Try.prog 51 #[.pointer (some ⟨Bs,0,none⟩)] entE (Ks S) (fun ys=>ys = told (Rw.map (·.1)) (Rw.map (·.1)).length) (fun ys=>∃ k,k ≤ (Rw.map (·.1)).length ∧ ys = told (Rw.map (·.1)) k) (Rw.map (·.1)).length w:=fun D J Jx W hW hJ _ hY h0=>by
 have HB:=hid hb
 have HMl : Hid ((Rw.map (·.1)).length = Rw.length):=List.length_map _
 obtain ⟨a,cap,hv⟩:=(hb w (Ks.refl _ _)).1.len
 subst hv
 have hKW : Ks S w W:=(Ks.refl _ _).below hW hhi
 have hcW:=(hb W hKW).2
 have HHi:=hid (fun k h=>Nat.lt_of_lt_of_le (hhi k h) hW.size)
 clear hb hhi
 refine callsIn_of_wp Try.func51 rfl trivial ?_ rfl
 simp only [Try.ntmps51,List.size_toArray,List.length_cons,List.length_nil,Nat.reduceAdd,Nat.reduceSub,Array.replicate_succ,Array.replicate_zero,List.push_toArray,List.append_toArray,List.nil_append,List.cons_append]
 gi_wp2
 gi_loopw [7] (fun i wr=>∃ k : Nat,k ≤ Rw.length ∧ i = .int .i64 k ∧ J (told (Rw.map (·.1)) k) wr ∧ W.heap.size ≤ wr.heap.size ∧ Ks S w wr) (fun i _=>Rw.length - (intOf i).toNat)
 case atStart=>exact ⟨0,by omega,rfl,h0,Nat.le_refl _,hKW⟩
 case round =>
  obtain ⟨k,hk,rfl,hJs,hzW,hbl⟩:=hrel
  have hzr:=hbl.1
  by_cases hlt : k < Rw.length
  ·obtain ⟨⟨c,m⟩,hx⟩ : ∃ x,Rw[k]? = some x:=⟨Rw[k],List.getElem?_eq_getElem hlt⟩
   have hx2 : (Rw.map (·.1))[k]? = some c:=by rw [List.getElem?_map,hx];rfl
   obtain ⟨b,o,cap',hv,-,hbb,hcs⟩:=(HB.out wr hbl).1.some (by omega)
   obtain ⟨rfl,-,rfl⟩:=Value.slice.inj hv
   have c0 : wr.cell? ⟨b,o + k * 2,none⟩ = some (.int .i64 c):=hcs (k * 2) _ (Kit.flat_at evL_len hx 0 (by omega))
   have c1 : wr.cell? ⟨b,o + k * 2 + 1,none⟩ = some (.int .i64 m):=hcs (k * 2 + 1) _ (Kit.flat_at evL_len hx 1 (by omega))
   have hki : (k : Int) < (Rw.length : Int):=by omega
   have HT:=hid (told_yes hx2)
   have hln2 : (told (Rw.map (·.1)) k).length < (Rw.map (·.1)).length:=by rw [told_len _ k (by rw [HMl.out];exact hk),HMl.out];omega
   have hba : Below wr.heap.size wr (wr.alloc (.cells #[.int .i64 c,.int .i64 m] 87)):=(Below.refl _ _).alloc (Nat.le_refl _) _
   have hJ2:=abides_new hJ hJs hba
   have HY:=hid (hY (told (Rw.map (·.1)) k) ⟨(k,c),hx2⟩ _ hJ2 hln2)
   have HK2:=hid (hbl.below hba (fun i hi=>Nat.lt_of_lt_of_le (HHi.out i hi) hzW))
   have HZ2 : Hid (W.heap.size ≤ (wr.alloc (.cells #[.int .i64 c,.int .i64 m] 87)).heap.size):=Nat.le_trans hzW hba.size
   clear hv hcs hba hJ2 hJs hln2
   obtain ⟨fn,tmps,assign,body,hy,hR⟩:=HY.out
   unfold entE at hy
   dsimp only at hy
   gi_wp2
   refine hR.mono ?_
   rintro e W3 (⟨rfl,hJ3,hk3⟩|⟨rfl,hJx3⟩)
   ·gi_wp2
    go_roundw
    case rel=>exact ⟨k + 1,by omega,by go_num,by rw [HT.out];exact hJ3,Nat.le_trans HZ2.out hk3.1,HK2.out.trans hk3⟩
    case measure=>simp [intOf];omega
   ·gi_wp2
    refine bodyPost_ret (results_none rfl _ _ _) rfl ?_
    exact ⟨⟨_,rfl⟩,.inr ⟨_,⟨k + 1,by rw [HMl.out];omega,HT.out.symm⟩,hJx3⟩⟩
  ·obtain rfl : k = Rw.length:=by omega
   gi_wp2
   refine bodyPost_end (results_none rfl _ _ _) rfl ?_
   exact ⟨⟨_,rfl⟩,.inl ⟨_,rfl,by rw [HMl.out];exact hJs⟩⟩
end Go.Proofs.Ytfphiomhlhpphaa
namespace Go.Proofs.Ytfphiomhlhpphaa
open Go Go.RowKit
open Pf (Site Sn ix addk alt keys)
attribute [local go_sem] Oper.semAt_some
theorem Ks.set {S : Nat → Prop} {A B : World} {b : Nat} (h : Ks S A B) (hp : ¬ S b) (u : Value) : Ks S A (B.setCell ⟨b,0,none⟩ u) :=
 h.trans ⟨(set_grown B b 0 u).size,fun i hi=>Below.heap_setCell _ _ _ i (fun e=>hp (by have e2 : i = b:=e;rw [← e2];exact hi))⟩
def intsT (l : List Int) : List Value:=l.map (Value.int .i64)
theorem intsT_at {l : List Int} {k : Nat} {c : Int} (h : l[k]? = some c) : (intsT l)[k]? = some (.int .i64 c):=by unfold intsT;rw [List.getElem?_map,h];rfl
def TeJ {l : List Int} (v : Value) (hi : Nat) (w : World) (pre : List (Tx l)) (W : World) : Prop :=
 Boxed W w.heap.size 71 v ∧ Boxed W (w.heap.size + 1) 4 (.bool false) ∧ Boxed W (w.heap.size + 1 + 1) 3 (.int .i64 (pre.length : Nat)) ∧ Below w.heap.size w W ∧ hi ≤ W.heap.size
theorem TeJ.own {l : List Int} {v : Value} {hi n : Nat} {w : World} (hn : w.heap.size ≤ n) : OwnFrom n (TeJ (l:=l) v hi w):=by
 rintro pre A B row ⟨h0,h2,h3,h5,h6⟩ hg hr
 exact ⟨boxed_own _ _ (fun _ : Unit=>v) () A B row h0 hg (fun r e=>(hr r e).2),boxed_own _ _ (fun _ : Unit=>.bool false) () A B row h2 hg (fun r e=>(hr r e).2),boxed_own _ _ (fun _ : Unit=>.int .i64 (pre.length : Nat)) () A B row h3 hg (fun r e=>(hr r e).2),h5.grown hg h5.size (fun k e=>by have:=(hr k e).1;omega),Nat.le_trans h6 hg.size⟩
def TeX {l : List Int} (w : World) (pre : List (Tx l)) (W : World) : Prop :=
 Hid (∃ b : Bool,Boxed W (w.heap.size + 1) 4 (.bool b) ∧ (b = false → ∃ p x,pre = p ++ [x] ∧ x.1.1 ≠ p.length)) ∧ Below w.heap.size w W
theorem TeX.own {l : List Int} {n : Nat} {w : World} (hn : w.heap.size ≤ n) : OwnFrom n (TeX (l:=l) w):=by
 rintro pre A B row ⟨⟨b,h1,h2⟩,h7⟩ hg hr
 exact ⟨⟨b,boxed_own _ _ (fun _ : Unit=>.bool b) () A B row h1 hg (fun r e=>(hr r e).2),h2⟩,h7.grown hg h7.size (fun k e=>by have:=(hr k e).1;omega)⟩
theorem TeX.is {l : List Int} {w W : World} {k : Nat} (hk : k ≤ l.length) (h : TeX w (told l k) W) : Boxed W (w.heap.size + 1) 4 (.bool true) ∧ Below w.heap.size w W:=by
 obtain ⟨⟨b,h1,h2⟩,h7⟩:=h
 refine ⟨?_,h7⟩
 cases b with
 | true=>exact h1
 | false =>
  obtain ⟨p,x,h3,h4⟩:=h2 rfl
  exact absurd (told_last hk h3) h4
set_option maxHeartbeats 4000000 in
theorem told_any (Rw : List Sn) (l : List Int) (ov v : Value) (Bs : Nat) (w : World) (hl : l = Rw.map (·.1)) (hit : ∀ X,Ks (fun k=>k < w.heap.size) w X → Kit.IsS 2 X ov Rw.length (Rw.flatMap evL) ∧ X.cell? ⟨Bs,0,none⟩ = some ov) (hv : Kit.IsS 1 w v l.length (intsT l)) (hn : Rw.length < 1000000000000000) :
  Calls Try.prog 24 #[.func (.func 51) #[] #[.pointer (some ⟨Bs,0,none⟩)],v] w fun e w'=>e = .returned (.bool true) ∧ Below w.heap.size w w':=by
 have HV:=hid (fun W (h : Below w.heap.size w W)=>hv.below h (Nat.le_refl _))
 obtain ⟨a,cap,hv2⟩:=hv.len
 subst hv2
 have hlR : l.length = Rw.length:=by rw [hl,List.length_map]
 have hlen : l.length < 1000000000000000:=by omega
 have HIT:=hid hit
 have HRn:=hid hn
 have HLl:=hid hl
 clear hv hit hlR hn hl
 refine (callsIn_wide (n:=5)).1 ?_
 refine callsIn_of_wp_marks Try.func24 rfl trivial ?_ rfl
 simp only [Try.ntmps24,List.size_toArray,List.length_cons,List.length_nil,Nat.reduceAdd,Nat.reduceSub,Array.replicate_succ,Array.replicate_zero,List.push_toArray,List.append_toArray,List.nil_append,List.cons_append]
 gi_wp2
 have b0:=((Boxed.new w 71 (.slice a l.length cap)).alloc (.cells #[.bool false] 4)).alloc (.cells #[.int .i64 0] 3)
 have b2:=(Boxed.new (w.alloc (.cells #[.slice a l.length cap] 71)) 4 (.bool false)).alloc (.cells #[.int .i64 0] 3)
 have b3:=Boxed.new ((w.alloc (.cells #[.slice a l.length cap] 71)).alloc (.cells #[.bool false] 4)) 3 (.int .i64 0)
 simp only [World.size_alloc] at b0 b2 b3
 have hB0 : Below w.heap.size w (((w.alloc (.cells #[.slice a l.length cap] 71)).alloc (.cells #[.bool false] 4)).alloc (.cells #[.int .i64 0] 3)):=(((Below.refl _ w).alloc (Nat.le_refl _) (.cells #[.slice a l.length cap] 71)).alloc (by simp only [World.size_alloc];omega) (.cells #[.bool false] 4)).alloc (by simp only [World.size_alloc];omega) (.cells #[.int .i64 0] 3)
 have hsz : (((w.alloc (.cells #[.slice a l.length cap] 71)).alloc (.cells #[.bool false] 4)).alloc (.cells #[.int .i64 0] 3)).heap.size = w.heap.size + 3:=by simp only [World.size_alloc]
 obtain ⟨w3,hw3⟩ : ∃ w3,(((w.alloc (.cells #[.slice a l.length cap] 71)).alloc (.cells #[.bool false] 4)).alloc (.cells #[.int .i64 0] 3)) = w3:=⟨_,rfl⟩
 rw [hw3] at b0 b2 b3 hB0 hsz ⊢
 clear hw3
 have hkX : Hid (∀ X,Ks (fun k=>k < w.heap.size) w3 X → Kit.IsS 2 X ov Rw.length (Rw.flatMap evL) ∧ X.cell? ⟨Bs,0,none⟩ = some ov):=fun X hX=>HIT.out X ⟨Nat.le_trans hB0.size hX.1,fun k h2=>(hX.2 k h2).trans (hB0.block k h2)⟩
 have hst:=hot1_stops Rw ov (fun k=>k < w.heap.size) Bs (5 - 1) w3 (by omega) (fun k h=>by omega) HRn.out hkX.out
 rw [← HLl.out] at hst
 have HSt:=hid hst
 clear hst HLl hkX HIT HRn
 have hB3z:=hB0.size
 refine wpIn_rangeFunc_ownH rfl (by omega) (gf:=51) (lb:=#[.pointer (some ⟨Bs,0,none⟩)]) rfl trivial (enters_of Try.func51 (by kernel_rfl) rfl)
  HSt.out (fun h k=>Ks.trans h k) (Ks.putObj (fun k h=>by omega)) (Below.refl _ _) (fun _=>rfl)
  (TeJ (.slice a l.length cap) w3.heap.size w) (fun c' pre W=>c' = .ret ∧ TeX w pre W) (TeJ.own hB0.size) (fun c' pre A B row h hg hr=>⟨h.1,TeX.own hB0.size pre A B row h.2 hg hr⟩)
  ⟨b0,b2,b3,hB0,Nat.le_refl _⟩
  (fun x a' W=>a' = { tmps:=#[.func (.func 51) #[] #[.pointer (some ⟨Bs,0,none⟩)],.slice a l.length cap,undef,.pointer (some ⟨w.heap.size,0,none⟩),.pointer (some ⟨w.heap.size + 1,0,none⟩),.pointer (some ⟨w.heap.size + 1 + 1,0,none⟩),.int .i64 x.1.2,.func (.func 51) #[] #[.pointer (some ⟨Bs,0,none⟩)],.int .i64 x.1.2,undef,undef,undef,undef,undef,undef,undef,undef,undef,undef,undef,undef,undef,undef,undef,undef,undef,undef],defers:=[] })
  (fun x a'=>Own.from (fun s A B row hs hg hr=>hs) _) ?assign ?body ?done ?stop
 case assign =>
  rintro D pre ⟨⟨k,c⟩,hx⟩ W K hI hK
  unfold entE
  gi_wp2
  exact hK _ _ ((⟨Nat.le_refl _,fun _ _ h _=>h⟩ : KeepsOthers W W).from _) (Ks.refl _ W) hI rfl
 case body =>
  rintro D pre ⟨⟨k,c⟩,hx⟩ a' W hl ⟨r,hr⟩ ⟨i0,i2,i3,hB,hh⟩ rfl hlt
  have c0:=i0.cell
  have c2:=i2.cell
  have c3:=i3.cell
  have f2:=i2.frozen
  have f3:=i3.frozen
  have HW:=hid (HV.out W hB)
  have hkl : k < l.length:=(List.getElem?_eq_some_iff.1 hx).1
  dsimp only
  have hhz:=hB.size
  by_cases hC : l[pre.length]? = some c
  ·have hlp:=(List.getElem?_eq_some_iff.1 hC).1
   obtain ⟨b,o,cap',hv,-,hbb,hcs⟩:=HW.out.some (by omega)
   obtain ⟨rfl,-,rfl⟩:=Value.slice.inj hv
   have d0:=hcs pre.length _ (intsT_at hC)
   have hpl : IntKind.i64.wrap ((pre.length : Int) + 1) = (pre.length : Int) + 1:=IntWalk.i64_in _ (by omega)
   have hge : decide (l.length ≤ pre.length) = false:=by simp;omega
   have hge2 : ¬ ((l.length : Int) ≤ (pre.length : Int)):=by omega
   have hge3 : (pre.length : Int) < (l.length : Int):=by omega
   have hcc : (c != c) = false:=by simp
   clear hcs hv hC
   gi_wp2
   have el : (.int .i64 ((pre.length : Int) + 1) : Value) = .int .i64 (((pre ++ [(⟨(k,c),hx⟩ : Tx l)]).length : Nat) : Int):=by simp
   exact ⟨(KeepsOthers.setCell _ _ _).from _,(Ks.refl (fun k=>k < w.heap.size) W).set (by omega) _,i0.other (by omega) _,i2.other (by omega) _,by rw [← el];exact i3.set _,(by repeat' first|with_reducible exact hB|with_reducible exact Below.refl _ _|with_reducible refine belows_drewN ?_ _|with_reducible refine Below.drew ?_|with_reducible refine Below.setCell ?_ ?_ _|omega|(simp;omega)),by simp only [World.size_setCell];omega⟩
  ·have hne : k ≠ pre.length:=by rintro rfl;exact hC hx
   have HNe:=hid hne
   by_cases hlp : l.length ≤ pre.length
   ·have hge : decide (l.length ≤ pre.length) = true:=by simpa using hlp
    have HX:=hid hx
    have hge2 : ((l.length : Int) ≤ (pre.length : Int)):=by omega
    clear hC hne hlp hge hlt hkl HX
    gi_wp2
    exact ⟨(KeepsOthers.setCell _ _ _).from _,rfl,⟨false,i2.set _,fun _=>⟨pre,_,rfl,HNe.out⟩⟩,hB.setCell (p:=⟨w.heap.size + 1,0,none⟩) (by show w.heap.size ≤ w.heap.size + 1;omega) _⟩
   ·obtain ⟨y,hy⟩ : ∃ y,l[pre.length]? = some y:=⟨_,List.getElem?_eq_getElem (by omega)⟩
    have hyc : (c != y) = true:=by
     simp only [bne_iff_ne,ne_eq]
     intro e
     apply hC
     rw [hy,e]
    obtain ⟨b,o,cap',hv,-,hbb,hcs⟩:=HW.out.some (by omega)
    obtain ⟨rfl,-,rfl⟩:=Value.slice.inj hv
    have d0:=hcs pre.length _ (intsT_at hy)
    have hge : decide (l.length ≤ pre.length) = false:=by simp;omega
    have hge2 : ¬ ((l.length : Int) ≤ (pre.length : Int)):=by omega
    have hge3 : (pre.length : Int) < (l.length : Int):=by omega
    clear hcs hv hC hne hy
    gi_wp2
    exact ⟨(KeepsOthers.setCell _ _ _).from _,rfl,⟨false,i2.set _,fun _=>⟨pre,_,rfl,HNe.out⟩⟩,hB.setCell (p:=⟨w.heap.size + 1,0,none⟩) (by show w.heap.size ≤ w.heap.size + 1;omega) _⟩
 case done =>
  rintro D ys W hD rfl ⟨i0,i2,i3,hB,hh⟩ hK
  have c0:=i0.cell
  have c2:=i2.cell
  have c3:=i3.cell
  have f2:=i2.frozen
  rw [told_len l l.length (Nat.le_refl _)] at c3
  have hd : ((l.length : Int) == (l.length : Int)) = true:=by simp
  gi_wp2
  have hK':=(KeepsOthers.setCell W ⟨w.heap.size + 1,0,none⟩ (.bool true)).same D _ hK rfl
  refine ⟨by simp,.inl ⟨_,_,rfl,run_takeDeferred hK',?_⟩⟩
  have hc5:=cell_kept (World.cell?_setCell_same' W ⟨w.heap.size + 1,0,none⟩ (.bool true) (by rw [c2];rfl)) (grownBy_putObj' _ D (.deferred none)) (fun r e=>by cases e;exact ⟨_,hK',rfl⟩)
  refine ⟨.bool true,?_,rfl,(hB.setCell (p:=⟨w.heap.size + 1,0,none⟩) (by show w.heap.size ≤ w.heap.size + 1;omega) _).trans (belowK_b (w:=w) (Nat.le_refl _) _ D _ _ (by omega) hK' rfl rfl)⟩
  simp [results,Try.f24,go_sem,hc5]
 case stop =>
  rintro D c' pre W hD ⟨k,hk,rfl⟩ ⟨rfl,hX⟩ hK
  obtain ⟨i2,hB⟩:=hX.is hk
  clear hX
  gi_wp2
  refine ⟨by simp,.inl ⟨_,_,rfl,run_takeDeferred hK,?_⟩⟩
  have hc2:=cell_kept i2.cell (grownBy_putObj' _ D (.deferred none)) (fun r e=>by cases e;exact ⟨_,hK,rfl⟩)
  refine ⟨.bool true,?_,rfl,hB.trans (belowK_b (w:=w) (Nat.le_refl _) _ D _ _ (by omega) hK rfl rfl)⟩
  simp [results,Try.f24,go_sem,hc2]
end Go.Proofs.Ytfphiomhlhpphaa
namespace Go.Proofs.Ytfphiomhlhpphaa
open Go Go.RowKit
open Pf (Site Sn ix addk alt keys)
set_option maxRecDepth 100000
set_option maxHeartbeats 2000000
def HotPost (w : World) (Rw : List Sn) (e : Ending) (w' : World) : Prop:=∃ (Bs : Nat) (rv : Value),e = .returned (.func (.func 51) #[] #[.pointer (some ⟨Bs,0,none⟩)]) ∧ RwR w' w.heap.size rv Rw ∧ BX w' Bs #[rv] 82 ∧ Below w.heap.size w w'
section
variable {w : World} {v : Value} {E : List Sn} {J : List (Site × Int)} {C : List (Site × Cl)} {me mj mc : Option Nat}
theorem hot_any (h : Sees w v E J C me mj mc) (hl : E.length ≤ 2932031007340) (least : Int) : Calls Try.prog 25 #[v,.int .i64 least] w (HotPost w (Pf.srt (E.filter (atL least)))):=by
 have HS:=hid (h.seen w (Below.refl _ _))
 have HR:=hid (fun W (hb : Below w.heap.size w W)=>ranked_any (h.he.below hb) hl least)
 have hf0:=fld0 me mj mc
 unfold RkPost at HR
 clear h hl
 go_enter Try.func25,Try.ntmps25
 go_wp2_with (first
  | (go_at_call 44;refine HS.out.mono ?_;rintro e W ⟨rfl,hb⟩;have HB:=hid hb;clear hb)
  | (go_at_call 45;refine (HR.out _ HB.out).mono ?_;rintro e W2 ⟨rv,rfl,ho,hb⟩;have HO:=hid ho;have HB2:=hid hb;obtain ⟨ra,rn,rc,hrv⟩:=own_form3 ho;subst hrv;clear ho hb))
 go_ret
 have hb2:=belows HB.out HB2.out HB.out.size
 have hb3 : Below W2.heap.size W2 (W2.alloc (.cells #[.slice ra rn rc] 82)):=(Below.refl _ _).alloc (Nat.le_refl _) _
 exact ⟨_,_,rfl,RwR.below (w:=W2) (Kit.owns_mono HO.out HB.out.size) hb3,BX.new W2 _ _,belows hb2 hb3 hb2.size⟩
end
section
variable {w : World} {v : Value}
end
end Go.Proofs.Ytfphiomhlhpphaa
namespace Go.Proofs.Ytfphiomhlhpphaa
open Go Go.RowKit
open Pf (Site Sn ix addk alt keys)
set_option maxRecDepth 100000
set_option maxHeartbeats 2000000
def s12 : Site:=(1,2)
theorem s12_ok : TS.ok s12:=⟨⟨by decide,by decide⟩,⟨by decide,by decide⟩⟩
structure Bes (w : World) (base pb : Nat) (p : IV) (n : Nat) (t : Pf.St) (bs : Nat) : Prop where
 pp : PP w base pb p
 ok : OkP p n
 st : p.st = t
 bx : BX w bs #[.int .i64 1,.int .i64 2] 29
 off : ¬ p.foot bs
 lo : base ≤ w.heap.size
theorem Bes.step {w w' : World} {base pb bs n m : Nat} {p : IV} {t t' : Pf.St} (h : Bes w base pb p n t bs) (hs : Step w w' base pb p m t') : ∃ p',Bes w' base pb p' m t' bs ∧ Below base w w':=by
 obtain ⟨p',h1,h2,h3,h4,h5⟩:=hs
 refine ⟨p',⟨h1,h2,h3,h.bx.chg h4 h.off,fun e=>?_,Nat.le_trans h.lo h4.size⟩,h4.to_below (fun k hk=>h.pp.has.low k hk) h.lo⟩
 rcases h5 bs e with e|e
 ·exact h.off e
 ·have:=h.bx.sz
  omega
theorem Bes.call {w : World} {base pb bs n : Nat} {p : IV} {t : Pf.St} (h : Bes w base pb p n t bs) (hn : n < 9000000000000) {k : Int} (hk : I8 k) {q : Int} (hq : Pf.kind (Pf.cnt (t.ca s12) k 1) = q) :
  Calls Try.prog 14 #[.pointer (some ⟨pb,0,none⟩),.agg #[.int .i64 1,.int .i64 2],.int .i64 k] w fun e w'=>e = .returned (.int .i64 q) ∧ ∃ p',Bes w' base pb p' (n + 1) (t.call s12 k 1) bs ∧ Below base w w':=by
 have:=callS h.pp h.lo h.ok hn s12_ok hk
 rw [h.st] at this
 refine this.mono ?_
 rintro e w' ⟨rfl,hs⟩
 exact ⟨by rw [hq],h.step hs⟩
def b1 : Pf.St:=Pf.st0.call s12 8 1
def b2 : Pf.St:=b1.call s12 8 1
def b3 : Pf.St:=b2.call s12 9 1
theorem begun_any (w : World) : Calls Try.prog 9 #[] w fun e w'=>e = .returned (.bool true) ∧ Below w.heap.size w w':=by
 have HN:=hid (newS w)
 have HC1:=hid (fun W pb p bs (h : Bes W w.heap.size pb p 0 Pf.st0 bs)=>h.call (by decide) (k:=8) ⟨by decide,by decide⟩ (q:=1) (by decide))
 have HC2:=hid (fun W pb p bs (h : Bes W w.heap.size pb p 1 b1 bs)=>h.call (by decide) (k:=8) ⟨by decide,by decide⟩ (q:=1) (by decide))
 have HC3:=hid (fun W pb p bs (h : Bes W w.heap.size pb p 2 b2 bs)=>h.call (by decide) (k:=9) ⟨by decide,by decide⟩ (q:=2) (by decide))
 have HM:=hid (fun W pb p bs (h : Bes W w.heap.size pb p 3 b3 bs)=>(show Calls Try.prog 23 #[.pointer (some ⟨pb,0,none⟩),.agg #[.int .i64 1,.int .i64 2]] W fun e w'=>e = .returned (.tuple #[.int .i64 8,.bool true]) ∧ Below W.heap.size W w' from by
  have:=mainS h.pp h.ok s12_ok
  rw [h.st] at this
  exact this))
 have HE1:=hid (fun W pb p n (h : PP W w.heap.size pb p) (ok : OkP p n) (hn : n < 100) (hs : p.st = b3)=>(show Calls Try.prog 12 #[.pointer (some ⟨pb,0,none⟩),.int .i64 3] W fun e w'=>e = .returned (.int .i64 1) ∧ Step W w' w.heap.size pb p (n + 1) (b3.enter 3) from by
  have:=enterS h ok (by omega) (f:=3) ⟨by decide,by decide⟩
  rw [hs] at this
  exact this))
 have HE2:=hid (fun W pb p n (h : PP W w.heap.size pb p) (ok : OkP p n) (hn : n < 100) (hs : p.st = b3.enter 3)=>(show Calls Try.prog 12 #[.pointer (some ⟨pb,0,none⟩),.int .i64 3] W fun e w'=>e = .returned (.int .i64 2) ∧ Step W w' w.heap.size pb p (n + 1) ((b3.enter 3).enter 3) from by
  have:=enterS h ok (by omega) (f:=3) ⟨by decide,by decide⟩
  rw [hs] at this
  exact this))
 go_enter Try.func9,Try.ntmps9
 go_upto_region 5 with (go_at_call 7;refine HN.out.mono ?_;rintro e w1 ⟨pb,p,rfl,h1,h2,h3,h4⟩;have HP:=hid (And.intro h1 (And.intro h2 (And.intro h3 h4)));clear h1 h2 h3 h4)
 refine region_named fun W2 hW2=>?_
 have hb2 : Below w1.heap.size w1 W2:=by rw [hW2];exact (Below.refl _ _).alloc (Nat.le_refl _) _
 have bx : BX W2 w1.heap.size #[.int .i64 1,.int .i64 2] 29:=by rw [hW2];exact BX.new w1 _ _
 have hbw:=belows HP.out.2.2.2 hb2 HP.out.2.2.2.size
 have HB0 : Hid (Bes W2.drew w.heap.size pb p 0 Pf.st0 w1.heap.size ∧ Below w.heap.size w W2.drew) :=
  ⟨⟨(HP.out.1.below hb2).below (Below.drew (Below.refl _ _)),HP.out.2.1,HP.out.2.2.1,bx,fun e=>by have:=HP.out.1.has.lt _ e;omega,hbw.size⟩,Below.drew hbw⟩
 have x0 : W2.cell? ⟨w1.heap.size,0,none⟩ = some (.int .i64 1):=bx.cell 0
 have x1 : W2.cell? ⟨w1.heap.size,1,none⟩ = some (.int .i64 2):=bx.cell 1
 clear hW2 hb2 bx hbw HP
 go_region_held3 (fun X=>X.cell? ⟨w1.heap.size,0,none⟩ = some (.int .i64 1) ∧ X.cell? ⟨w1.heap.size,1,none⟩ = some (.int .i64 2))
  (first|exact ⟨x0,x1⟩|go_keep)
  (first
   | ((fail_if_success (have _g:=HB1));go_at_call 14;(with_reducible refine (HC1.out _ _ _ _ HB0.out.1).mono ?_);rintro e X1 ⟨rfl,p1,h1,hb⟩;have HB1:=hid (And.intro h1 (HB0.out.2.trans hb));clear x0 x1;have x0 : X1.cell? ⟨w1.heap.size,0,none⟩ = some (.int .i64 1):=h1.bx.cell 0;have x1 : X1.cell? ⟨w1.heap.size,1,none⟩ = some (.int .i64 2):=h1.bx.cell 1;clear h1 hb)
   | (have _g:=HB1;(fail_if_success (have _g:=HB2));go_at_call 14;(with_reducible refine (HC2.out _ _ _ _ HB1.out.1).mono ?_);rintro e X2 ⟨rfl,p2,h1,hb⟩;have HB2:=hid (And.intro h1 (HB1.out.2.trans hb));clear x0 x1;have x0 : X2.cell? ⟨w1.heap.size,0,none⟩ = some (.int .i64 1):=h1.bx.cell 0;have x1 : X2.cell? ⟨w1.heap.size,1,none⟩ = some (.int .i64 2):=h1.bx.cell 1;clear h1 hb)
   | (have _g:=HB2;go_at_call 14;(with_reducible refine (HC3.out _ _ _ _ HB2.out.1).mono ?_);rintro e X3 ⟨rfl,p3,h1,hb⟩;have HB3:=hid (And.intro h1 (HB2.out.2.trans hb));clear x0 x1;have x0 : X3.cell? ⟨w1.heap.size,0,none⟩ = some (.int .i64 1):=h1.bx.cell 0;have x1 : X3.cell? ⟨w1.heap.size,1,none⟩ = some (.int .i64 2):=h1.bx.cell 1;clear h1 hb))
 go_wp2_with (first
  | (go_at_call 23;refine (HM.out _ _ _ _ HB3.out.1).mono ?_;rintro e X4 ⟨rfl,hb⟩;have HB4 : Hid (PP X4 w.heap.size pb p3 ∧ OkP p3 3 ∧ p3.st = b3 ∧ Below w.heap.size w X4):=⟨HB3.out.1.pp.below hb,HB3.out.1.ok,HB3.out.1.st,belows HB3.out.2 hb HB3.out.2.size⟩;clear hb)
  | ((fail_if_success (have _g:=HB5));go_at_call 12;refine (HE1.out _ _ _ _ HB4.out.1 HB4.out.2.1 (by decide) HB4.out.2.2.1).mono ?_;rintro e X5 ⟨rfl,p5,h1,h2,h3,h4,h5⟩;have HB5 : Hid (PP X5 w.heap.size pb p5 ∧ OkP p5 4 ∧ p5.st = b3.enter 3 ∧ Below w.heap.size w X5):=⟨h1,h2,h3,HB4.out.2.2.2.trans (h4.to_below (fun k hk=>HB4.out.1.has.low k hk) HB4.out.2.2.2.size)⟩;clear h1 h2 h3 h4 h5)
  | (have _g:=HB5;go_at_call 12;refine (HE2.out _ _ _ _ HB5.out.1 HB5.out.2.1 (by decide) HB5.out.2.2.1).mono ?_;rintro e X6 ⟨rfl,p6,h1,h2,h3,h4,h5⟩;have HB6 : Hid (Below w.heap.size w X6):=HB5.out.2.2.2.trans (h4.to_below (fun k hk=>HB5.out.1.has.low k hk) HB5.out.2.2.2.size);clear h1 h2 h3 h4 h5))
 go_ret
 exact ⟨rfl,HB6.out⟩
end Go.Proofs.Ytfphiomhlhpphaa
