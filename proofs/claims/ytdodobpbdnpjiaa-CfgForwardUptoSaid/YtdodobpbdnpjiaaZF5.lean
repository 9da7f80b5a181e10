/- Own texts for the claim, part 5. -/
import Derived.Test.YtdodobpbdnpjiaaZF4
import Derived.RangeFuncNested
import Derived.RangeFuncBound
import Derived.RangeFuncLeaves
import Derived.Shelf.Abstract
import Derived.Shelf.RegionOpen
import Derived.OwnWalkIn
import Derived.TacticsInMore
import Derived.LoopNIn
import Derived.LoopIn
import Derived.Maps.Own
import Derived.Maps.OwnOps
import Derived.Maps.OwnSet
import Derived.Maps.Views
import Derived.DeepKeys4
import Derived.ArgAppend
namespace Go.Proofs.Ytdodobpbdnpjiaa
open Go Go.RowKit
open Kit (natVals)

attribute [local go_sem] Oper.semAt_some

set_option maxRecDepth 100000 in
theorem Order_any {w : World} {gb n c : Nat} {a : Option Addr} (k2 : w.cell? ⟨gb, 2, none⟩ = some (.slice a n c)) : Calls Try.prog 12 #[.pointer (some ⟨gb, 0, none⟩)] w fun e w' => e = .returned (.func (.func 34) #[] #[.pointer (some ⟨w.heap.size, 0, none⟩)]) ∧ w' = w.alloc (.cells #[.slice a n c] 34) := by
  have hgs := World.block_lt_of_cell? w _ k2
  have hbl : gb < w.heap.size := hgs
  clear hgs
  go_enter Try.func12, Try.ntmps12
  go_wp2
  go_ret
  exact ⟨rfl, rfl⟩
/-- Blocks that stay as they are. -/
def Ks (S : Nat → Prop) (A B : World) : Prop := A.heap.size ≤ B.heap.size ∧ ∀ k, S k → B.heap[k]? = A.heap[k]?
theorem Ks.refl (S : Nat → Prop) (A : World) : Ks S A A := ⟨Nat.le_refl _, fun _ _ => rfl⟩
theorem Ks.trans {S : Nat → Prop} {A B C : World} (h : Ks S A B) (k : Ks S B C) : Ks S A C := ⟨Nat.le_trans h.1 k.1, fun i h1 => (k.2 i h1).trans (h.2 i h1)⟩
theorem Ks.below {S : Nat → Prop} {n : Nat} {A B C : World} (h : Ks S A B) (hb : Below n B C) (hn : ∀ k, S k → k < n) : Ks S A C := h.trans ⟨hb.size, fun i h2 => hb.block i (hn i h2)⟩
theorem Ks.putObj {S : Nat → Prop} {w : World} (hn : ∀ k, S k → k < w.heap.size) (W : World) (l : Nat) (o o' : Obj) (hl : w.heap.size ≤ l) (h : W.heap[l]? = some o) (_ : o.isCells = false) (_ : o.isWalk = false) : Ks S W (W.putObj l o') :=
  ⟨(grownBy_putObj' W l o').size, fun i hi => (grownBy_putObj' W l o').block i (by have := hn i hi; have := (Array.getElem?_eq_some_iff.1 h).1; omega) (fun e => by cases e; have := hn _ hi; omega)⟩
/-- A number that is told, and its place. -/
abbrev Tx (l : List Nat) := { x : Nat × Nat // l[x.1]? = some x.2 }
/-- What is told: the first so many. -/
def told (l : List Nat) : Nat → List (Tx l)
  | 0 => []
  | k + 1 => told l k ++ (match h : l[k]? with | some c => [⟨(k, c), h⟩] | none => [])
theorem told_yes {l : List Nat} {k c : Nat} (h : l[k]? = some c) : told l (k + 1) = told l k ++ [⟨(k, c), h⟩] := by
  show told l k ++ _ = _
  congr 1
  split
  · rename_i d hd
    obtain rfl := Option.some.inj (hd.symm.trans h)
    rfl
  · rename_i hd
    rw [hd] at h
    cases h
theorem told_len (l : List Nat) : ∀ k, k ≤ l.length → (told l k).length = k
  | 0, _ => rfl
  | k + 1, h => by
    have hk : l[k]? = some l[k] := List.getElem?_eq_getElem (by omega)
    rw [told_yes hk, List.length_append, told_len l k (by omega)]
    rfl
theorem told_last {l : List Nat} {k : Nat} {pre : List (Tx l)} {x : Tx l} (hk : k ≤ l.length) (h : told l k = pre ++ [x]) : x.1.1 = pre.length := by
  cases k with
  | zero =>
    have := congrArg List.length h
    simp [told] at this
  | succ k =>
    have h1 : l[k]? = some l[k] := List.getElem?_eq_getElem (by omega)
    rw [told_yes h1] at h
    obtain ⟨e1, e2⟩ := List.append_inj' h rfl
    have e3 := told_len l k (by omega)
    rw [e1] at e3
    simp only [List.cons.injEq, and_true] at e2
    rw [← e2]
    exact e3.symm
def entE {l : List Nat} (x : Tx l) : Array Value := #[.int .i64 (x.1.2 : Int)]
set_option maxRecDepth 100000 in
set_option maxHeartbeats 1000000 in
theorem order1_stops (l : List Nat) (v : Value) (S : Nat → Prop) (Bs n : Nat) (w : World) (hn : 1 ≤ n) (hhi : ∀ k, S k → k < w.heap.size) (hb : ∀ X, Ks S w X → Kit.IsS 1 X v l.length (natVals l) ∧ X.cell? ⟨Bs, 0, none⟩ = some v) :
    SeqStopsK Fence.wide n Try.prog 34 #[.pointer (some ⟨Bs, 0, none⟩)] entE (Ks S) (fun ys => ys = told l l.length) (fun ys => ∃ k, k ≤ l.length ∧ ys = told l k) l.length w := fun D J Jx W hW hJ _ hY h0 => by
  have HB := hid hb
  obtain ⟨a, cap, hv⟩ := (hb w (Ks.refl _ _)).1.len
  subst hv
  have hlen := (hb w (Ks.refl _ _)).1.2.1
  have hKW : Ks S w W := (Ks.refl _ _).below hW hhi
  have hcW := (hb W hKW).2
  clear hb
  refine callsIn_of_wp Try.func34 rfl trivial ?_ rfl
  simp only [Try.ntmps34, List.size_toArray, List.length_cons, List.length_nil, Nat.reduceAdd, Nat.reduceSub, Array.replicate_succ, Array.replicate_zero, List.push_toArray, List.append_toArray, List.nil_append, List.cons_append]
  gi_wp2
  gi_loopw [7] (fun i wr => ∃ k : Nat, k ≤ l.length ∧ i = .int .i64 k ∧ J (told l k) wr ∧ W.heap.size ≤ wr.heap.size ∧ Ks S w wr) (fun i _ => l.length - (intOf i).toNat)
  case atStart => exact ⟨0, by omega, rfl, h0, Nat.le_refl _, hKW⟩
  case round =>
    obtain ⟨k, hk, rfl, hJs, hzW, hbl⟩ := hrel
    have hzr := hbl.1
    by_cases hlt : k < l.length
    · obtain ⟨c, hx⟩ : ∃ x, l[k]? = some x := ⟨l[k], List.getElem?_eq_getElem hlt⟩
      obtain ⟨b, o, cap', hv, -, hbb, hcs⟩ := (HB.out wr hbl).1.some (by omega)
      obtain ⟨rfl, -, rfl⟩ := Value.slice.inj hv
      have c0 := hcs k _ (Kit.natVals_at hx)
      have hki : (k : Int) < (l.length : Int) := by omega
      have HT := hid (told_yes hx)
      have hln : (told l k).length < l.length := by rw [told_len l k hk]; omega
      have HY := hid (hY (told l k) ⟨(k, c), hx⟩ wr hJs hln)
      clear hv hcs
      obtain ⟨fn, tmps, assign, body, hy, hR⟩ := HY.out
      unfold entE at hy
      dsimp only at hy
      gi_wp2
      refine hR.mono ?_
      rintro e W3 (⟨rfl, hJ3, hk3⟩ | ⟨rfl, hJx3⟩)
      · gi_wp2
        go_roundw
        case rel => exact ⟨k + 1, by omega, by go_num, by rw [HT.out]; exact hJ3, (by have := hk3.1; omega), hbl.trans hk3⟩
        case measure => simp [intOf]; omega
      · gi_wp2
        refine bodyPost_ret (results_none rfl _ _ _) rfl ?_
        exact ⟨⟨_, rfl⟩, .inr ⟨_, ⟨k + 1, by omega, HT.out.symm⟩, hJx3⟩⟩
    · obtain rfl : k = l.length := by omega
      gi_wp2
      refine bodyPost_end (results_none rfl _ _ _) rfl ?_
      exact ⟨⟨_, rfl⟩, .inl ⟨_, rfl, hJs⟩⟩
end Go.Proofs.Ytdodobpbdnpjiaa
namespace Go.Proofs.Ytdodobpbdnpjiaa
open Go Go.RowKit
open Kit (natVals)

/-- Of the edges gone over, those to a block: where they come from. -/
def Cf.psN (es : List (Nat × Nat)) (x : Nat) : List Nat := (es.filter (fun e => e.2 == x)).map (·.1)
def eVals (bs : List (Nat × Nat)) : List Value := bs.flatMap (fun e => [.int .i64 (e.1 : Int), .int .i64 (e.2 : Int)])
theorem eVals_snoc (bs : List (Nat × Nat)) (a x : Nat) : eVals (bs ++ [(a, x)]) = eVals bs ++ [.int .i64 (a : Int), .int .i64 (x : Int)] := by unfold eVals; rw [List.flatMap_append]; rfl
theorem Cf.psN_yes (es : List (Nat × Nat)) (a x : Nat) : psN (es ++ [(a, x)]) x = psN es x ++ [a] := by unfold psN; rw [List.filter_append, List.map_append]; simp
theorem Cf.psN_no (es : List (Nat × Nat)) (a : Nat) {x y : Nat} (h : y ≠ x) : psN (es ++ [(a, x)]) y = psN es y := by
  unfold psN
  have : (x == y) = false := by simpa using fun e => h e.symm
  rw [List.filter_append, List.map_append]
  simp [this]
theorem Cf.psN_len (es : List (Nat × Nat)) (x : Nat) : (psN es x).length ≤ es.length := by
  unfold psN
  rw [List.length_map]
  exact List.length_filter_le _ _
theorem below_keeps {W W' : World} (h : Below W.heap.size W W') : KeepsOthers W W' := ⟨h.size, fun k _ hk _ => (h.block k (Array.getElem?_eq_some_iff.1 hk).1).trans hk⟩
theorem own_keeps {W W' : World} {b : Nat} {e : TypeId} {s : Nat} {v : Value} {n : Nat} {xs : List Value} (h : W.ownsRow b e s v n xs) (hg : W.grownBy W' v.ownBlock) : KeepsOthers W W' :=
  KeepsOthers.of_grownBy hg (fun j o e1 e2 => by
    rcases h.2 with ⟨rfl, -⟩ | ⟨g, cap, cur, rfl, -, hh, -⟩
    · simp [Value.ownBlock] at e1
    · simp only [Value.ownBlock, Option.some.injEq] at e1
      subst e1
      rw [hh] at e2
      obtain rfl := Option.some.inj e2
      rfl)
theorem row_upd (pv : Nat → Value) (k x : Nat) (u : Value) : (((List.range k).map pv).toArray).setIfInBounds x u = ((List.range k).map (upd pv x u)).toArray := by
  apply Array.ext_getElem?
  intro i
  rw [Array.getElem?_setIfInBounds]
  by_cases hi : i < k
  · by_cases e : x = i
    · subst e
      rw [if_pos rfl, if_pos (by simp; exact hi)]
      simp [List.getElem?_range hi, upd_same]
    · rw [if_neg e]
      simp [List.getElem?_range hi, upd_other pv u (fun h => e h.symm)]
  · by_cases e : x = i
    · subst e
      rw [if_pos rfl, if_neg (by simp; omega)]
      simp [List.getElem?_eq_none (show (List.range k).length ≤ x by simp; omega)]
    · rw [if_neg e]
      simp [List.getElem?_eq_none (show (List.range k).length ≤ i by simp; omega)]
/-- What lies apart from a row of numbers keeps its block. -/
structure TuI (w3 : World) (gb pb k : Nat) (bl fv ov sv : Value) (es : List (Nat × Nat)) (pv : Nat → Value) (kv : Value) (bs : List (Nat × Nat)) (W : World) : Prop where
  box : BX W gb #[bl, fv, ov, sv, .slice (some ⟨pb, 0, none⟩) k k, kv] 56
  pr : BX W pb ((List.range k).map pv).toArray 34
  ro : ∀ x, x < k → W.ownsRow w3.heap.size 3 1 (pv x) (Cf.psN es x).length (natVals (Cf.psN es x))
  ap : ∀ x y, x < k → y < k → x ≠ y → ∀ j, (pv x).ownBlock = some j → (pv y).ownBlock ≠ some j
  bk : W.ownsRow w3.heap.size 77 2 kv bs.length (eVals bs)
  ch : Chg (fun i => i = gb ∨ i = pb) w3 W
  lg : gb < w3.heap.size
  lp : pb < w3.heap.size
  ne : gb ≠ pb
section
variable {w3 W W' : World} {gb pb k : Nat} {bl fv ov sv : Value} {es : List (Nat × Nat)} {pv : Nat → Value} {kv : Value} {bs : List (Nat × Nat)}
theorem TuI.below (h : TuI w3 gb pb k bl fv ov sv es pv kv bs W) (hb : Below W.heap.size W W') : TuI w3 gb pb k bl fv ov sv es pv kv bs W' :=
  ⟨h.box.below hb, h.pr.below hb, fun x hx => Kit.owns_below (h.ro x hx) hb (Nat.le_refl _), h.ap, Kit.owns_below h.bk hb (Nat.le_refl _), h.ch.below hb, h.lg, h.lp, h.ne⟩
theorem TuI.at (h : TuI w3 gb pb k bl fv ov sv es pv kv bs W) {x : Nat} (hx : x < k) : W.cell? ⟨pb, x, none⟩ = some (pv x) ∧ W.frozen? ⟨pb, x, none⟩ = false := by
  refine ⟨(h.pr.cell x).trans ?_, h.pr.frozen x⟩
  simp [List.getElem?_range hx]
theorem TuI.push {a x : Nat} {v2 : Value} {W2 w4 : World} (h : TuI w3 gb pb k bl fv ov sv es pv kv bs W) (hx : x < k) (hbl : Below W.heap.size W W2) (hg : W2.grownBy w4 (pv x).ownBlock)
    (hk : v2.ownBlock = (pv x).ownBlock ∨ v2.ownBlock = some W2.heap.size) (ho : w4.ownsRow w3.heap.size 3 1 v2 ((Cf.psN es x).length + 1) (natVals (Cf.psN es x) ++ [.int .i64 (a : Int)])) :
    BX w4 gb #[bl, fv, ov, sv, .slice (some ⟨pb, 0, none⟩) k k, kv] 56 ∧ w4.cell? ⟨pb, x, none⟩ = some (pv x) ∧ w4.frozen? ⟨pb, x, none⟩ = false ∧ Chg (fun i => i = gb ∨ i = pb) w3 w4 ∧ TuI w3 gb pb k bl fv ov sv (es ++ [(a, x)]) (upd pv x v2) kv bs (w4.setCell ⟨pb, x, none⟩ v2) ∧ KeepsOthers W (w4.setCell ⟨pb, x, none⟩ v2) ∧ Chg (fun i => (pv x).ownBlock = some i ∨ i = pb) W (w4.setCell ⟨pb, x, none⟩ v2) := by
  have hc3 : Chg (fun i => (pv x).ownBlock = some i) W w4 := (Chg.of_below hbl).grown hg (fun k e => .inl e)
  have hc4 : Chg (fun i => i = pb) w4 (w4.setCell ⟨pb, x, none⟩ v2) := (Chg.refl (fun i => i = pb) w4).set (p := ⟨pb, x, none⟩) (.inl rfl) v2
  have hlo : ∀ j, (pv x).ownBlock = some j → w3.heap.size ≤ j := fun j e => Kit.own_base (h.ro x hx) j e
  have hg4 := h.box.chg hc3 (fun e => by have := hlo _ e; have := h.lg; omega)
  have hp4 := h.pr.chg hc3 (fun e => by have := hlo _ e; have := h.lp; omega)
  have hW4 : Chg (fun i => i = gb ∨ i = pb) w3 w4 := h.ch.trans hc3 (fun i e => .inr (hlo i e))
  have bk4 := owns_chg h.bk hc3 (fun j e1 e2 => own_unlike (h.ro x hx) h.bk (by decide) j e2 e1)
  have hlb : ∀ {v : Value} {n : Nat} {e : TypeId} {s : Nat} {xs : List Value}, w4.ownsRow w3.heap.size e s v n xs → ∀ j, v.ownBlock = some j → ¬ j = pb := fun o j e e2 => by have := Kit.own_base o j e; have := h.lp; omega
  refine ⟨hg4, (hp4.cell x).trans (by simp [List.getElem?_range hx]), hp4.frozen x, hW4, ⟨hg4.chg hc4 h.ne, ?_, fun y hy => ?_, fun y z hy hz hne j e => ?_, owns_chg bk4 hc4 (hlb bk4), hW4.trans hc4 (fun i e => .inl (.inr e)), h.lg, h.lp, h.ne⟩, ?_, (hc3.mono (T := fun i => (pv x).ownBlock = some i ∨ i = pb) (fun _ _ e => .inl e)).trans hc4 (fun i e => .inl (.inr e))⟩
  · have := box_set hp4 x v2
    rw [row_upd] at this
    exact this
  · by_cases e : y = x
    · subst e
      rw [upd_same, Cf.psN_yes, List.length_append, Kit.natVals_snoc]
      exact owns_chg ho hc4 (hlb ho)
    · rw [upd_other _ _ e, Cf.psN_no _ _ e]
      have o3 := owns_chg (h.ro y hy) hc3 (fun j e1 e2 => h.ap y x hy hx e j e1 e2)
      exact owns_chg o3 hc4 (hlb o3)
  · have hnew : ∀ u, u < k → ∀ j, (pv u).ownBlock = some j → j < W2.heap.size := fun u hu j e => Nat.lt_of_lt_of_le (Kit.own_lt (h.ro u hu) j e) hbl.size
    by_cases ey : y = x
    · subst ey
      rw [upd_same] at e
      rw [upd_other _ _ (fun e2 => hne e2.symm)]
      intro e2
      rcases hk with hk | hk
      · exact h.ap y z hy hz hne j (by rw [← hk]; exact e) e2
      · rw [hk] at e
        have := hnew z hz j e2
        have := Option.some.inj e
        omega
    · rw [upd_other _ _ ey] at e
      by_cases ez : z = x
      · subst ez
        rw [upd_same]
        intro e2
        rcases hk with hk | hk
        · exact h.ap y z hy hz hne j e (by rw [← hk]; exact e2)
        · rw [hk] at e2
          have := hnew y hy j e
          have := Option.some.inj e2
          omega
      · rw [upd_other _ _ ez]
        exact h.ap y z hy hz hne j e
  · exact ((below_keeps hbl).trans (own_keeps (Kit.owns_below (h.ro x hx) hbl (Nat.le_refl _)) hg)).trans (KeepsOthers.setCell _ _ _)
theorem TuI.back {a x : Nat} {v2 : Value} {W2 w4 : World} (h : TuI w3 gb pb k bl fv ov sv es pv kv bs W) (hbl : Below W.heap.size W W2) (hg : W2.grownBy w4 kv.ownBlock)
    (ho : w4.ownsRow w3.heap.size 77 2 v2 (bs.length + 1) (eVals bs ++ [.int .i64 (a : Int), .int .i64 (x : Int)])) :
    w4.cell? ⟨gb, 5, none⟩ = some kv ∧ w4.frozen? ⟨gb, 5, none⟩ = false ∧ Chg (fun i => i = gb ∨ i = pb) w3 w4 ∧ TuI w3 gb pb k bl fv ov sv es pv v2 (bs ++ [(a, x)]) (w4.setCell ⟨gb, 5, none⟩ v2) ∧ KeepsOthers W (w4.setCell ⟨gb, 5, none⟩ v2) ∧ Chg (fun i => kv.ownBlock = some i ∨ i = gb) W (w4.setCell ⟨gb, 5, none⟩ v2) := by
  have hc3 : Chg (fun i => kv.ownBlock = some i) W w4 := (Chg.of_below hbl).grown hg (fun k e => .inl e)
  have hc4 : Chg (fun i => i = gb) w4 (w4.setCell ⟨gb, 5, none⟩ v2) := (Chg.refl (fun i => i = gb) w4).set (p := ⟨gb, 5, none⟩) (.inl rfl) v2
  have hlo : ∀ j, kv.ownBlock = some j → w3.heap.size ≤ j := fun j e => Kit.own_base h.bk j e
  have hg4 := h.box.chg hc3 (fun e => by have := hlo _ e; have := h.lg; omega)
  have hp4 := h.pr.chg hc3 (fun e => by have := hlo _ e; have := h.lp; omega)
  have hW4 : Chg (fun i => i = gb ∨ i = pb) w3 w4 := h.ch.trans hc3 (fun i e => .inr (hlo i e))
  have hlb : ∀ {v : Value} {n : Nat} {e : TypeId} {s : Nat} {xs : List Value}, w4.ownsRow w3.heap.size e s v n xs → ∀ j, v.ownBlock = some j → ¬ j = gb := fun o j e e2 => by have := Kit.own_base o j e; have := h.lg; omega
  refine ⟨hg4.cell 5, hg4.frozen 5, hW4, ⟨?_, hp4.chg hc4 (fun e => h.ne e.symm), fun y hy => ?_, h.ap, ?_, hW4.trans hc4 (fun i e => .inl (.inl e)), h.lg, h.lp, h.ne⟩, ?_, (hc3.mono (T := fun i => kv.ownBlock = some i ∨ i = gb) (fun _ _ e => .inl e)).trans hc4 (fun i e => .inl (.inr e))⟩
  · exact box_set hg4 5 v2
  · have o3 := owns_chg (h.ro y hy) hc3 (fun j e1 e2 => own_unlike (h.ro y hy) h.bk (by decide) j e1 e2)
    exact owns_chg o3 hc4 (hlb o3)
  · rw [eVals_snoc, List.length_append]
    exact owns_chg ho hc4 (hlb ho)
  · exact ((below_keeps hbl).trans (own_keeps (Kit.owns_below h.bk hbl (Nat.le_refl _)) hg)).trans (KeepsOthers.setCell _ _ _)
/-- Blocks that are no cells may turn. -/
theorem chg_non {A B : World} {row : Option Nat} {n : Nat} {e : TypeId} {s : Nat} {v : Value} {m : Nat} {xs : List Value} (h : A.ownsRow n e s v m xs) (hg : A.grownBy B row) (hr : ∀ r, row = some r → ∃ o : Obj, A.heap[r]? = some o ∧ o.isCells = false) : B.ownsRow n e s v m xs := by
  refine owns_chg h (Chg.of_grown (S := fun i => row = some i) hg (fun _ e => e)) (fun j e1 e2 => ?_)
  obtain ⟨o, ho, hc⟩ := hr j e2
  rcases h.2 with ⟨rfl, -⟩ | ⟨g, cap, cur, rfl, -, hh, -⟩
  · simp [Value.ownBlock] at e1
  · simp only [Value.ownBlock, Option.some.injEq] at e1
    subst e1
    rw [hh] at ho
    obtain rfl := Option.some.inj ho
    cases hc
theorem bx_non {A B : World} {row : Option Nat} {b : Nat} {cs : Array Value} {T : TypeId} (h : BX A b cs T) (hg : A.grownBy B row) (hr : ∀ r, row = some r → ∃ o : Obj, A.heap[r]? = some o ∧ o.isCells = false) : BX B b cs T := by
  refine h.chg (Chg.of_grown (S := fun i => row = some i) hg (fun _ e => e)) (fun e2 => ?_)
  obtain ⟨o, ho, hc⟩ := hr b e2
  rw [show A.heap[b]? = _ from h] at ho
  obtain rfl := Option.some.inj ho
  cases hc
theorem TuI.own (h : TuI w3 gb pb k bl fv ov sv es pv kv bs W) {row : Option Nat} (hg : W.grownBy W' row) (hr : ∀ r, row = some r → w3.heap.size ≤ r ∧ ∃ o : Obj, W.heap[r]? = some o ∧ o.isCells = false) : TuI w3 gb pb k bl fv ov sv es pv kv bs W' :=
  have hr2 := fun r e => (hr r e).2
  ⟨bx_non h.box hg hr2, bx_non h.pr hg hr2, fun x hx => chg_non (h.ro x hx) hg hr2, h.ap, chg_non h.bk hg hr2, h.ch.grown hg (fun r e => .inr (hr r e).1), h.lg, h.lp, h.ne⟩
end
theorem owns_same {w X : World} {base : Nat} {e : TypeId} {s : Nat} {v : Value} {n : Nat} {xs : List Value} (h : w.ownsRow base e s v n xs) (hx : ∀ j, v.ownBlock = some j → X.heap[j]? = w.heap[j]?) : X.ownsRow base e s v n xs := by
  refine ⟨h.1, ?_⟩
  rcases h.2 with h2 | ⟨g, cap, cur, rfl, hg, hh, k⟩
  · exact .inl h2
  · exact .inr ⟨g, cap, cur, rfl, hg, (hx g rfl).trans hh, k⟩
theorem own_at4 {W : World} {base bb cap k b : Nat} {R : Nat → List Value} {T : TypeId} (h : W.ownsRow base T 4 (.slice (some ⟨bb, 0, none⟩) k cap) k ((List.range k).flatMap R)) (hR : ∀ x, (R x).length = 4) (hb : b < k) : ∀ i u, i < 4 → (R b)[i]? = some u → W.cell? ⟨bb, b * 4 + i, none⟩ = some u := by
  have hl := h.1
  rcases h.2 with ⟨e, -⟩ | ⟨g, cap', cur, e, hg, hh, hc1, hc2, hc3, ht⟩
  · cases e
  · obtain ⟨e1, -, rfl⟩ := Value.slice.inj e
    obtain rfl : bb = g := by simpa using e1
    intro i u hi hu
    have hx := (Kit.flat_at hR (List.getElem?_range hb) i hi).trans hu
    rw [← ht, List.getElem?_take_of_lt (by have : b * 4 + 4 ≤ k * 4 := (by omega); omega)] at hx
    have : cur[b * 4 + i]? = some u := by simpa using hx
    simp [World.cell?, hh, this]
namespace Cf
/-- The edges of a list of blocks, in order. -/
def evs (E : Nat → List Nat) (l : List Nat) : List (Nat × Nat) := l.flatMap (fun a => (E a).map (fun b => (a, b)))
/-- Those that go back. -/
def bks (sp : Nat → Nat) (es : List (Nat × Nat)) : List (Nat × Nat) := es.filter (fun e => decide (sp e.2 ≤ sp e.1))
theorem evs_snoc (E : Nat → List Nat) (l : List Nat) (a : Nat) : evs E (l ++ [a]) = evs E l ++ (E a).map (fun b => (a, b)) := by unfold evs; simp
theorem bks_yes (sp : Nat → Nat) (es : List (Nat × Nat)) {a b : Nat} (h : sp b ≤ sp a) : bks sp (es ++ [(a, b)]) = bks sp es ++ [(a, b)] := by unfold bks; rw [List.filter_append]; simp [h]
theorem bks_no (sp : Nat → Nat) (es : List (Nat × Nat)) {a b : Nat} (h : ¬ sp b ≤ sp a) : bks sp (es ++ [(a, b)]) = bks sp es := by unfold bks; rw [List.filter_append]; simp [h]
theorem bks_len (sp : Nat → Nat) (es : List (Nat × Nat)) : (bks sp es).length ≤ es.length := List.length_filter_le _ _
theorem evs_len (E : Nat → List Nat) (m : Nat) : ∀ l : List Nat, (∀ a ∈ l, (E a).length ≤ m) → (evs E l).length ≤ l.length * m
  | [], _ => by simp [evs]
  | a :: l, h => by
    have h1 := evs_len E m l (fun x hx => h x (by simp [hx]))
    have h2 := h a (by simp)
    unfold evs at h1 ⊢
    rw [List.flatMap_cons, List.length_append, List.length_map, List.length_cons, Nat.succ_mul]
    omega
theorem take_snoc {α : Type} {l : List α} {j : Nat} {x : α} (h : l[j]? = some x) : l.take (j + 1) = l.take j ++ [x] := by
  rw [List.take_add_one, h]
  rfl
theorem rise_lt_len {l : List Nat} {k : Nat} (h : ∀ x ∈ l, x < k) : (rise l).length ≤ k := by
  have h1 : (rise l).Nodup := (rise_lt l).imp (fun h => by omega)
  have := len_le h1 (b := List.range k) (fun x hx => List.mem_range.2 (h x (mem_rise.1 hx)))
  rwa [List.length_range] at this
end Cf
/-- Where turn stands when it puts the rows in order. -/
structure SoI (w3 : World) (gb pb k : Nat) (bl fv ov sv : Value) (pv : Nat → Value) (kv : Value) (bs : List (Nat × Nat)) (W : World) : Prop where
  box : BX W gb #[bl, fv, ov, sv, .slice (some ⟨pb, 0, none⟩) k k, kv] 56
  pr : BX W pb ((List.range k).map pv).toArray 34
  ro : ∀ x, x < k → ∃ l : List Nat, l.length ≤ 1048576 ∧ W.ownsRow w3.heap.size 3 1 (pv x) l.length (natVals l)
  ap : ∀ x y, x < k → y < k → x ≠ y → ∀ j, (pv x).ownBlock = some j → (pv y).ownBlock ≠ some j
  bk : W.ownsRow w3.heap.size 77 2 kv bs.length (eVals bs)
  ch : Chg (fun i => i = gb ∨ i = pb) w3 W
  lg : gb < w3.heap.size
  lp : pb < w3.heap.size
theorem TuI.so {w3 W : World} {gb pb k : Nat} {bl fv ov sv : Value} {es : List (Nat × Nat)} {pv : Nat → Value} {kv : Value} {bs : List (Nat × Nat)} (h : TuI w3 gb pb k bl fv ov sv es pv kv bs W) (hl : ∀ x, (Cf.psN es x).length ≤ 1048576) : SoI w3 gb pb k bl fv ov sv pv kv bs W :=
  ⟨h.box, h.pr, fun x hx => ⟨_, hl x, h.ro x hx⟩, h.ap, h.bk, h.ch, h.lg, h.lp⟩
theorem SoI.sort {w3 W W' : World} {gb pb k : Nat} {bl fv ov sv : Value} {pv : Nat → Value} {kv : Value} {bs : List (Nat × Nat)} (h : SoI w3 gb pb k bl fv ov sv pv kv bs W) {x : Nat} (hx : x < k) {l : List Nat} (hl : l.length ≤ 1048576) (hr : RowPost w3.heap.size (pv x) l W W') : SoI w3 gb pb k bl fv ov sv pv kv bs W' ∧ KeepsOthers W W' := by
  obtain ⟨l0, -, h0⟩ := h.ro x hx
  have hlo : ∀ j, (pv x).ownBlock = some j → w3.heap.size ≤ j := fun j e => Kit.own_base h0 j e
  refine ⟨⟨h.box.chg hr.2 (fun e => by have := hlo _ e; have := h.lg; omega), h.pr.chg hr.2 (fun e => by have := hlo _ e; have := h.lp; omega), fun y hy => ?_, h.ap, owns_chg h.bk hr.2 (fun j e1 e2 => own_unlike h0 h.bk (by decide) j e2 e1), h.ch.trans hr.2 (fun i e => .inr (hlo i e)), h.lg, h.lp⟩, hr.2.size, fun q o hq ho => ?_⟩
  · by_cases e : y = x
    · subst e
      exact ⟨l, hl, hr.1⟩
    · obtain ⟨ly, hly, hy2⟩ := h.ro y hy
      exact ⟨ly, hly, owns_chg hy2 hr.2 (fun j e1 e2 => h.ap y x hy hx e j e1 e2)⟩
  · refine (hr.2.block q (Array.getElem?_eq_some_iff.1 hq).1 (fun e => ?_)).trans hq
    rcases h0.2 with ⟨e0, -⟩ | ⟨g, cap, cur, e0, -, hh, -⟩
    · rw [e0] at e
      simp [Value.ownBlock] at e
    · rw [e0] at e
      simp only [Value.ownBlock, Option.some.injEq] at e
      subst e
      rw [hh] at hq
      obtain rfl := Option.some.inj hq
      cases ho
theorem told_map (l : List Nat) : ∀ k, k ≤ l.length → (told l k).map (fun x : Tx l => x.1.2) = l.take k
  | 0, _ => by simp [told]
  | k + 1, h => by
    have hk : l[k]? = some l[k] := List.getElem?_eq_getElem (by omega)
    rw [told_yes hk, List.map_append, told_map l k (by omega), Cf.take_snoc hk]
    rfl
theorem Cf.psN_evs {E : Nat → List Nat} (hE : ∀ a, (E a).Nodup) (x : Nat) : ∀ l : List Nat, (psN (evs E l) x).length ≤ l.length
  | [] => by simp [evs, psN]
  | a :: l => by
    have h1 := psN_evs hE x l
    unfold psN evs at h1 ⊢
    rw [List.flatMap_cons, List.filter_append, List.map_append, List.length_append, List.length_cons]
    have h2 : ((((E a).map (fun b => (a, b))).filter (fun e => e.2 == x)).map (·.1)).length ≤ 1 := by
      rw [List.length_map, List.filter_map, List.length_map]
      have h3 : ((E a).filter ((fun e : Nat × Nat => e.2 == x) ∘ fun b => (a, b))).Nodup := (hE a).sublist List.filter_sublist
      have := len_le h3 (b := [x]) (fun y hy => by
        have := (List.mem_filter.1 hy).2
        simpa using this)
      simpa using this
    omega
open Cf (Op5 opL) in
/-- A graph in memory, whole. -/
structure GT (W : World) (base gb bb cap ob : Nat) (L : List Op5) (B : Nat → Bool) (k : Nat) (nv cv : Nat → Value) (cl : Nat → List Nat) (O : List Nat) (ov sv pv kv : Value) (bs : List (Nat × Nat)) : Prop where
  box : BX W gb #[.slice (some ⟨bb, 0, none⟩) k cap, .slice (some ⟨ob, 0, none⟩) L.length L.length, ov, sv, pv, kv] 56
  bl : W.ownsRow base 36 4 (.slice (some ⟨bb, 0, none⟩) k cap) k ((List.range k).flatMap (Cf.bkV B L.length nv cv))
  of : W.ownsRow base 3 1 (.slice (some ⟨ob, 0, none⟩) L.length L.length) L.length (ivals (Cf.ofN B) L.length)
  nx : ∀ x, x < k → W.ownsRow base 3 1 (nv x) (Cf.nxs L B x).length (natVals (Cf.nxs L B x))
  ca : ∀ x, x < k → W.ownsRow base 3 1 (cv x) (cl x).length (natVals (cl x))
  ord : W.ownsRow base 3 1 ov O.length (natVals O)
  bk : W.ownsRow base 77 2 kv bs.length (eVals bs)
  lo : base ≤ gb
end Go.Proofs.Ytdodobpbdnpjiaa
namespace Go.Proofs.Ytdodobpbdnpjiaa
open Go Go.RowKit
open Kit (natVals)

theorem A.laid : laidOutB Try.prog = true := by kernel_rfl
theorem A.keyT : Try.prog.keyType 50 = true := by kernel_rfl
theorem A.keyed : Maps.Keyed Try.prog 50 := Maps.Keyed.of_law (deep_law_laid A.laid (m := 3) (by omega) (of_decide_eq_true (by kernel_rfl)) (by kernel_rfl) (by kernel_rfl))
theorem A.keyedI : Maps.Keyed Try.prog 3 := Maps.int_keyed Try.underlying3
theorem A.tsz : ∃ k, Try.prog.types.size + 1 = k + 2 := ⟨Try.prog.types.size - 1, by have : 1 ≤ Try.prog.types.size := of_decide_eq_true (by kernel_rfl); omega⟩
theorem nat_wf {a : Nat} (h : a < 1048577) : (Lit.int .i64 (a : Int)).wf = true := by
  simp [Lit.wf, IntKind.min, IntKind.max, IntKind.signed, IntKind.bits]
  omega
theorem A.lits2 (a b : Nat) (h1 : a < 1048577) (h2 : b < 1048577) : Try.prog.keyLits (Try.prog.types.size + 1) 50 [.int .i64 (a : Int), .int .i64 (b : Int)] = some [.int .i64 (a : Int), .int .i64 (b : Int)] := by
  obtain ⟨k, hk⟩ := A.tsz
  have c1 : Try.prog.cellsOf 50 = 2 := by kernel_rfl
  have c2 : Try.prog.cellsOf 3 = 1 := by kernel_rfl
  rw [hk]
  simp [Program.keyLits, Try.underlying50, Try.underlying3, c1, c2, nat_wf h1, nat_wf h2, List.range, List.range.loop]
theorem A.key2 (a b : Nat) (h1 : a < 1048577) (h2 : b < 1048577) : keyOf Try.prog 50 (.agg #[.int .i64 (a : Int), .int .i64 (b : Int)]) = some (.string (keyBytes [.int .i64 (a : Int), .int .i64 (b : Int)])) := by
  have c1 : Try.prog.cellsOf 50 = 2 := by kernel_rfl
  unfold keyOf
  rw [Try.underlying50]
  dsimp only
  rw [if_pos (by simp [A.keyT, Value.formed, Try.underlying50, c1])]
  show Option.map _ (Try.prog.keyLits (Try.prog.types.size + 1) 50 [.int .i64 (a : Int), .int .i64 (b : Int)]) = _
  rw [A.lits2 a b h1 h2]
  rfl
theorem A.keyN (a : Nat) (h : a < 1048577) : keyOf Try.prog 3 (.int .i64 (a : Int)) = some (.int .i64 (a : Int)) := Maps.keyOf_int_mk Try.underlying3 (nat_wf h)
theorem A.zeroI (w : World) : (zeroValue 3).run Try.prog w = .ok (.int .i64 0) w := by kernel_rfl
theorem A.zeroB (w : World) : (zeroValue 4).run Try.prog w = .ok (.bool false) w := by kernel_rfl
def kn (a : Nat) : Lit := .int .i64 (a : Int)
theorem kn_inj {a b : Nat} (h : kn a = kn b) : a = b := by
  have := (Lit.int.inj h).2
  omega
def kl2 (a b : Nat) : Lit := .string (keyBytes [.int .i64 (a : Int), .int .i64 (b : Int)])
theorem kl2_inj {a b c d : Nat} (h1 : a < 1048577) (h2 : b < 1048577) (h3 : c < 1048577) (h4 : d < 1048577) (h : kl2 a b = kl2 c d) : a = c ∧ b = d := by
  have e := keyLits_inj (A.lits2 a b h1 h2) (A.lits2 c d h3 h4) (Lit.string.inj h)
  simp only [List.cons.injEq, Lit.int.injEq, true_and, and_true] at e
  omega
/-- A map that has places: of the numbers of a list. -/
def PlM (w : World) (mb : Nat) (O : List Nat) : Prop := ∃ D : DataW Unit, w.ownsMap Try.prog 3 (plainElem Try.prog 3) mb O.length D ∧ Maps.size D = O.length ∧
  (∀ x, Maps.has D (kn x) = decide (x ∈ O)) ∧ ∀ x, x ∈ O → D.atKey (kn x) (.lit (.int .i64 0)) = .lit (.int .i64 (O.idxOf x : Int))
theorem PlM.new (w : World) : PlM (w.alloc (.map #[] 0)) w.heap.size [] := ⟨.map [], World.ownsMap_made w _ _ _, rfl, fun _ => rfl, fun _ h => by cases h⟩
theorem PlM.keep {w w' : World} {mb : Nat} {O : List Nat} (h : PlM w mb O) (hb : w'.heap[mb]? = w.heap[mb]?) : PlM w' mb O := by
  obtain ⟨D, ⟨es, clock, h1, h2, h3, h4⟩, hd⟩ := h
  exact ⟨D, ⟨es, clock, hb.trans h1, h2, h3, h4⟩, hd⟩
theorem PlM.is {w : World} {mb : Nat} {O : List Nat} (h : PlM w mb O) : ∃ es c, w.heap[mb]? = some (.map es c) := by
  obtain ⟨D, ⟨es, clock, h1, -⟩, -⟩ := h
  exact ⟨es, clock, h1⟩
theorem PlM.lt {w : World} {mb : Nat} {O : List Nat} (h : PlM w mb O) : mb < w.heap.size := by
  obtain ⟨es, c, h1⟩ := h.is
  exact (Array.getElem?_eq_some_iff.1 h1).1
theorem PlM.look {w : World} {mb : Nat} {O : List Nat} (h : PlM w mb O) (x : Nat) (hx : x < 1048577) :
    ∃ r : Int, (Instr.lookup 42 (.map (some mb)) (.int .i64 (x : Int)) true).run Try.prog w = .ok (.tuple #[.int .i64 r, .bool (decide (x ∈ O))]) w ∧ (x ∈ O → r = (O.idxOf x : Int)) := by
  obtain ⟨D, h1, -, h2, h3⟩ := h
  obtain ⟨v, ps, hrun, hv⟩ := h1.look_ok A.keyedI Try.underlying42 (A.zeroI w) (plainElem_int Try.underlying3 (a := 0) (by decide)) (A.keyN x hx)
  obtain ⟨a, rfl, ha, -⟩ := plainElem_int_inv Try.underlying3 hv
  refine ⟨a, ?_, fun hm => ?_⟩
  · rw [hrun]
    have := h2 x
    unfold kn at this
    rw [this]
  · have := h3 x hm
    unfold kn at this
    rw [this] at ha
    simp only [Prod.mk.injEq, DataW.lit.injEq, Lit.int.injEq, true_and] at ha
    exact ha.1.symm
theorem PlM.len {w : World} {mb : Nat} {O : List Nat} (h : PlM w mb O) (ty : TypeId) : (Builtin.len_ #[42] ty #[.map (some mb)]).run Try.prog w = .ok (.int .i64 (O.length : Int)) w := by
  obtain ⟨D, h1, h2, -⟩ := h
  have := h1.len Try.underlying42 ty
  rw [h2] at this
  exact this
theorem PlM.put {w : World} {mb : Nat} {O : List Nat} (h : PlM w mb O) (x : Nat) (hx : x < 1048577) (hl : O.length < 1048577) (hno : x ∉ O) :
    ∃ w', (Instr.mapUpdate 42 (.map (some mb)) (.int .i64 (x : Int)) (.int .i64 (O.length : Int))).run Try.prog w = .ok () w' ∧ PlM w' mb (O ++ [x]) ∧ w.grownBy w' (some mb) := by
  obtain ⟨D, h1, h4, h2, h3⟩ := h
  obtain ⟨w', hr, ho, hg⟩ := h1.update A.keyedI Try.underlying42 (by unfold maxLen; omega) (A.keyN x hx) (plainElem_int Try.underlying3 (nat_wf hl))
  refine ⟨w', hr, ⟨_, by rw [List.length_append]; exact ho, ?_, fun y => ?_, fun y hy => ?_⟩, hg⟩
  · rw [Maps.size_put (h1.tidy A.keyedI)]
    have := h2 x
    unfold kn at this
    rw [this, decide_eq_false hno, List.length_append, h4]
    rfl
  · by_cases e : y = x
    · subst e
      unfold kn
      rw [Maps.has_put_same h1.isMap (by trivial) _]
      simp
    · refine (Maps.has_put_other (k' := kn y) (k := kn x) (fun k => e (kn_inj k)) _).trans ((h2 y).trans ?_)
      simp [e]
  · by_cases e : y = x
    · subst e
      unfold kn
      rw [Maps.atKey_put_same h1.isMap (by trivial) _ _, List.idxOf_append, if_neg hno]
      simp
    · have hyO : y ∈ O := by
        rcases List.mem_append.1 hy with h | h
        · exact h
        · exact absurd (List.mem_singleton.1 h) e
      refine (Maps.atKey_put_other (k' := kn y) (k := kn x) (fun k => e (kn_inj k)) _ _).trans ((h3 y hyO).trans ?_)
      rw [List.idxOf_append, if_pos hyO]
theorem plainElem_bool_inv {e : TypeId} (he : Try.prog.underlying e = some .bool) {v : Value} {z : DataW Unit × List MemPlace} (h : plainElem Try.prog e v = some z) : ∃ a, v = .bool a ∧ z = (.lit (.bool a), []) := by
  unfold plainElem at h
  rw [he] at h
  cases v <;> simp at h
  subst h
  exact ⟨_, rfl, rfl⟩
/-- A set of edges. -/
def BkM (w : World) (mb n : Nat) (bs : List (Nat × Nat)) : Prop := ∃ D : DataW Unit, w.ownsMap Try.prog 50 (plainElem Try.prog 4) mb n D ∧ ∀ a b, a < 1048577 → b < 1048577 → D.atKey (kl2 a b) (.lit (.bool false)) = .lit (.bool (decide ((a, b) ∈ bs)))
theorem BkM.new (w : World) : BkM (w.alloc (.map #[] 0)) w.heap.size 0 [] := ⟨.map [], World.ownsMap_made w _ _ _, fun _ _ _ _ => rfl⟩
theorem BkM.keep {w w' : World} {mb n : Nat} {bs : List (Nat × Nat)} (h : BkM w mb n bs) (hb : w'.heap[mb]? = w.heap[mb]?) : BkM w' mb n bs := by
  obtain ⟨D, ⟨es, clock, h1, h2, h3, h4⟩, hd⟩ := h
  exact ⟨D, ⟨es, clock, hb.trans h1, h2, h3, h4⟩, hd⟩
theorem BkM.is {w : World} {mb n : Nat} {bs : List (Nat × Nat)} (h : BkM w mb n bs) : ∃ es c, w.heap[mb]? = some (.map es c) := by
  obtain ⟨D, ⟨es, clock, h1, -⟩, -⟩ := h
  exact ⟨es, clock, h1⟩
theorem BkM.lt {w : World} {mb n : Nat} {bs : List (Nat × Nat)} (h : BkM w mb n bs) : mb < w.heap.size := by
  obtain ⟨es, c, h1⟩ := h.is
  exact (Array.getElem?_eq_some_iff.1 h1).1
theorem BkM.look {w : World} {mb n : Nat} {bs : List (Nat × Nat)} (h : BkM w mb n bs) (a b : Nat) (ha : a < 1048577) (hb : b < 1048577) :
    (Instr.lookup 46 (.map (some mb)) (.agg #[.int .i64 (a : Int), .int .i64 (b : Int)]) false).run Try.prog w = .ok (.bool (decide ((a, b) ∈ bs))) w := by
  obtain ⟨D, h1, h2⟩ := h
  obtain ⟨v, ps, hrun, hv⟩ := h1.lookup A.keyed Try.underlying46 (A.zeroB w) (plainElem_bool Try.underlying4 false) (A.key2 a b ha hb)
  obtain ⟨c, rfl, hc⟩ := plainElem_bool_inv Try.underlying4 hv
  have e := h2 a b ha hb
  unfold kl2 at e
  rw [e] at hc
  simp only [Prod.mk.injEq, DataW.lit.injEq, Lit.bool.injEq] at hc
  rw [hrun, ← hc.1]
theorem BkM.put {w : World} {mb n : Nat} {bs : List (Nat × Nat)} (h : BkM w mb n bs) (a b : Nat) (ha : a < 1048577) (hb : b < 1048577) (hn : n < maxLen) :
    ∃ w', (Instr.mapUpdate 46 (.map (some mb)) (.agg #[.int .i64 (a : Int), .int .i64 (b : Int)]) (.bool true)).run Try.prog w = .ok () w' ∧ BkM w' mb (n + 1) (bs ++ [(a, b)]) ∧ w.grownBy w' (some mb) := by
  obtain ⟨D, h1, h2⟩ := h
  obtain ⟨w', hr, ho, hg⟩ := h1.update A.keyed Try.underlying46 hn (A.key2 a b ha hb) (plainElem_bool Try.underlying4 true)
  refine ⟨w', hr, ⟨_, ho, fun c d hc hd => ?_⟩, hg⟩
  by_cases e : c = a ∧ d = b
  · obtain ⟨rfl, rfl⟩ := e
    refine (Maps.atKey_put_same (k := kl2 c d) h1.isMap (by trivial) _ _).trans ?_
    simp
  · refine (Maps.atKey_put_other (k' := kl2 c d) (k := kl2 a b) (fun k => e (kl2_inj hc hd ha hb k)) _ _).trans ((h2 c d hc hd).trans ?_)
    have : ((c, d) ∈ bs ++ [(a, b)]) ↔ (c, d) ∈ bs := by
      rw [List.mem_append, List.mem_singleton]
      constructor
      · rintro (h | h)
        · exact h
        · exact absurd ⟨(Prod.mk.inj h).1, (Prod.mk.inj h).2⟩ e
      · exact .inl
    simp [this]
/-- A list that is taken from at its head. -/
def QS (w : World) (base : Nat) (v : Value) (l : List Nat) : Prop := ∃ (g o cap : Nat) (cur : Array Value), v = .slice (some ⟨g, o, none⟩) l.length cap ∧ base ≤ g ∧ w.heap[g]? = some (.cells cur 3 (0, 0)) ∧ l.length ≤ cap ∧ o + cap ≤ cur.size ∧ cap ≤ maxLen ∧ ∀ (j x : Nat), l[j]? = some x → cur[o + j]? = some (.int .i64 (x : Int))
theorem QS.own {w : World} {base : Nat} {v : Value} {n : Nat} {l : List Nat} (h : w.ownsRow base 3 1 v l.length (natVals l)) (hv : ∃ g o c, v = .slice (some ⟨g, o, none⟩) n c) : QS w base v l := by
  rcases h.2 with ⟨rfl, -⟩ | ⟨g, cap, cur, rfl, hg, hh, h1, h2, h3, h4⟩
  · obtain ⟨g, o, c, e⟩ := hv
    cases e
  · refine ⟨g, 0, cap, cur, rfl, hg, hh, h1, by rw [h3]; omega, h2, fun j x hj => ?_⟩
    have hl : j < l.length := (List.getElem?_eq_some_iff.1 hj).1
    have h5 : (cur.toList.take (l.length * 1))[j]? = (natVals l)[j]? := by rw [h4]
    rw [List.getElem?_take_of_lt (by omega), Kit.natVals_at hj] at h5
    rw [Nat.zero_add, ← Array.getElem?_toList]
    exact h5
theorem QS.chg {w w' : World} {base : Nat} {v : Value} {l : List Nat} {S : Nat → Prop} (h : QS w base v l) (hc : Chg S w w') (hs : ∀ j, v.ownBlock = some j → ¬ S j) : QS w' base v l := by
  obtain ⟨g, o, cap, cur, rfl, h1, h2, h3⟩ := h
  exact ⟨g, o, cap, cur, rfl, h1, (hc.block g (Array.getElem?_eq_some_iff.1 h2).1 (hs g rfl)).trans h2, h3⟩
theorem QS.head {w : World} {base : Nat} {v : Value} {x : Nat} {l : List Nat} (h : QS w base v (x :: l)) : ∃ g o cap, v = .slice (some ⟨g, o, none⟩) (l.length + 1) cap ∧ g < w.heap.size ∧ w.cell? ⟨g, o, none⟩ = some (.int .i64 (x : Int)) ∧
    ∃ v', (Instr.slice 34 v (some (.int .i64 1)) none none).run Try.prog w = .ok v' w ∧ QS w base v' l ∧ v'.ownBlock = v.ownBlock := by
  obtain ⟨g, o, cap, cur, rfl, h1, h2, h3, h4, h5, h6⟩ := h
  have hg := (Array.getElem?_eq_some_iff.1 h2).1
  have h0 := h6 0 x rfl
  refine ⟨g, o, cap, rfl, hg, by simp [World.cell?, h2]; simpa using h0, ?_⟩
  have hu : Try.prog.underlying 34 = some (.slice (Try.prog.elem 34)) := by kernel_rfl
  have hr := run_slice_l (P := Try.prog) (w := w) 34 (some ⟨g, o, none⟩) (x :: l).length cap hu .i64 1 (by omega) (by simp; omega)
  have hz : (sizeOf (Try.prog.elem 34)).run Try.prog w = .ok 1 w := by kernel_rfl
  rw [hz] at hr
  refine ⟨_, hr, ?_, ?_⟩
  · unfold sliced
    simp only [List.length_cons] at h3 ⊢
    by_cases hc : cap = 1
    · subst hc
      refine ⟨g, o, 0, cur, ?_, h1, h2, by omega, by omega, by omega, fun j y hj => ?_⟩
      · simp
      · have : l.length = 0 := by omega
        have := (List.getElem?_eq_some_iff.1 hj).1
        omega
    · refine ⟨g, o + 1, cap - 1, cur, ?_, h1, h2, by omega, by omega, by omega, fun j y hj => ?_⟩
      · rw [if_neg (by simpa using hc)]
        simp [Addr.add]
      · rw [Nat.add_assoc, Nat.add_comm 1 j]
        exact h6 (j + 1) y (by simpa using hj)
  · unfold sliced
    by_cases hc : cap = 1
    · subst hc; simp [Value.ownBlock]
    · rw [if_neg (by simpa using hc)]
      simp [Value.ownBlock, Addr.add]
/-- One more at its end. -/
theorem QS.app {w : World} {base : Nat} {v : Value} {l : List Nat} (h : QS w base v l) (hb : base ≤ w.heap.size) (x : Nat) (ad : Addr) (hx : w.cell? ad = some (.int .i64 (x : Int))) (hl : l.length ≤ 4000000) (ty : TypeId) :
    ∃ v' w', (Builtin.append_ #[34, 34] ty #[v, .slice (some ad) 1 1]).run Try.prog w = .ok v' w' ∧ QS w' base v' (l ++ [x]) ∧ Chg (fun i => v.ownBlock = some i) w w' ∧ (∀ j, v'.ownBlock = some j → v.ownBlock = some j ∨ w.heap.size ≤ j) := by
  obtain ⟨i0, hi, hz0, hz1, hz2⟩ := info_parts infoI
  obtain ⟨g, o, cap, cur, rfl, h1, h2, h3, h4, h5, h6⟩ := h
  have hnews : ∀ j u, ([.int .i64 (x : Int)] : List Value)[j]? = some u → w.cell? (ad.add j) = some u := fun j u hj => by
    cases j with
    | zero =>
      have : u = .int .i64 (x : Int) := by simpa using hj.symm
      rw [this]
      simpa [Addr.add] using hx
    | succ j => simp at hj
  by_cases hr : l.length + 1 ≤ cap
  · have hfit : o + l.length < cur.size := by omega
    have hc : ∀ j, j < ([.int .i64 (x : Int)] : List Value).length → (w.cell? ⟨g, o + l.length * i0.size + j, none⟩).isSome = true := fun j hj => by
      obtain rfl : j = 0 := by simpa using hj
      rw [hz1]
      simp [World.cell?, h2, hfit]
    have hf : ∀ j, j < ([.int .i64 (x : Int)] : List Value).length → w.frozen? ⟨g, o + l.length * i0.size + j, none⟩ = false := fun j hj => by
      simp [World.frozen?, h2]
    have hrun := run_append_room_cells (P := Try.prog) w 34 ty 3 i0 Try.underlying34 hi g o l.length cap ad 1 1 [.int .i64 (x : Int)] (by rw [hz1]; rfl) hnews (fun u hu => by rw [List.mem_singleton] at hu; rw [hu]; rfl) hr hc hf
    rw [hz1, Nat.mul_one] at hrun
    have hset : w.setCells g (o + l.length) [.int .i64 (x : Int)] = w.setCell ⟨g, o + l.length, none⟩ (.int .i64 (x : Int)) := rfl
    rw [hset] at hrun
    refine ⟨_, _, hrun, ⟨g, o, cap, cur.setIfInBounds (o + l.length) (.int .i64 (x : Int)), ?_, h1, box_set h2 _ _, ?_, ?_, h5, fun j y hj => ?_⟩, ?_, fun j e => .inl e⟩
    · rw [List.length_append]; rfl
    · rw [List.length_append]; exact hr
    · rw [Array.size_setIfInBounds]; exact h4
    · rw [Array.getElem?_setIfInBounds]
      by_cases e : j = l.length
      · subst e
        rw [if_pos rfl, if_pos hfit]
        have : x = y := by simpa using hj
        rw [this]
      · rw [if_neg (by omega)]
        have hjl : j < l.length := by
          have := (List.getElem?_eq_some_iff.1 hj).1
          rw [List.length_append] at this
          simp at this
          omega
        rw [List.getElem?_append_left hjl] at hj
        exact h6 j y hj
    · exact (Chg.refl (fun i => (Value.slice (some ⟨g, o, none⟩) l.length cap).ownBlock = some i) w).set (p := ⟨g, o + l.length, none⟩) (.inl rfl) _
  · have holds : ∀ j u, (natVals l)[j]? = some u → w.cell? ((⟨g, o, none⟩ : Addr).add j) = some u := fun j u hj => by
      have hjl : j < l.length := by
        have := (List.getElem?_eq_some_iff.1 hj).1
        unfold natVals at this
        rwa [List.length_map] at this
      obtain ⟨y, hy⟩ : ∃ y, l[j]? = some y := ⟨_, List.getElem?_eq_getElem hjl⟩
      rw [Kit.natVals_at hy] at hj
      rw [← Option.some.inj hj]
      have := h6 j y hy
      rw [Go.WideShapes.add_plain]
      simp [World.cell?, h2, this]
    obtain ⟨v', w', hrun, ho, hg⟩ := run_append_arg_grows (P := Try.prog) w 34 ty 3 i0 _ 1 8 Try.underlying34 hi hz0 hz1 hz2 rfl (by decide) ⟨g, o, none⟩ l.length cap (natVals l) (by unfold natVals; simp) holds ad 1 1 [.int .i64 (x : Int)] rfl hnews (by omega) (by unfold maxLen; omega) (by omega)
    rw [← Kit.natVals_snoc] at ho
    have ho2 : w'.ownsRow base 3 1 v' (l ++ [x]).length (natVals (l ++ [x])) := by rw [List.length_append]; exact Kit.owns_mono ho hb
    have hv : ∃ g c, v' = .slice (some ⟨g, 0, none⟩) (l.length + 1) c ∧ w.heap.size ≤ g := by
      rcases ho.2 with ⟨-, h0⟩ | ⟨g', c', cur', e, hg', -⟩
      · omega
      · exact ⟨g', c', e, hg'⟩
    obtain ⟨g', c', hv', hg'⟩ := hv
    exact ⟨v', w', hrun, QS.own ho2 ⟨g', 0, c', hv'⟩, Chg.of_grown hg (fun k e => by cases e), fun j e => .inr (Kit.own_base ho j e)⟩
end Go.Proofs.Ytdodobpbdnpjiaa
namespace Go.Proofs.Ytdodobpbdnpjiaa
open Go Go.RowKit
namespace Cf
theorem mem_evs {E : Nat → List Nat} {a b : Nat} : ∀ {l : List Nat}, (a, b) ∈ evs E l ↔ a ∈ l ∧ b ∈ E a := by
  intro l
  unfold evs
  rw [List.mem_flatMap]
  constructor
  · rintro ⟨x, hx, h⟩
    obtain ⟨y, hy, e⟩ := List.mem_map.1 h
    obtain ⟨rfl, rfl⟩ := Prod.mk.inj e
    exact ⟨hx, hy⟩
  · rintro ⟨h1, h2⟩
    exact ⟨a, h1, List.mem_map.2 ⟨b, h2, rfl⟩⟩
theorem mem_bks {E : Nat → List Nat} {sp : Nat → Nat} {O : List Nat} {a b : Nat} : (a, b) ∈ bks sp (evs (fun a => rise (E a)) O) ↔ a ∈ O ∧ b ∈ E a ∧ sp b ≤ sp a := by
  unfold bks
  rw [List.mem_filter, mem_evs, mem_rise, decide_eq_true_iff, and_assoc]
/-- How many of the first numbers are held. -/
def cin (en : List Nat) (i : Nat) : Nat := ((List.range i).filter (fun x => decide (x ∈ en))).length
theorem cin_yes {en : List Nat} {i : Nat} (h : i ∈ en) : cin en (i + 1) = cin en i + 1 := by
  unfold cin
  rw [List.range_succ, List.filter_append, List.length_append]
  simp [h]
theorem cin_no {en : List Nat} {i : Nat} (h : i ∉ en) : cin en (i + 1) = cin en i := by
  unfold cin
  rw [List.range_succ, List.filter_append, List.length_append]
  simp [h]
theorem cin_le (en : List Nat) (i : Nat) : cin en i ≤ i := by
  unfold cin
  exact Nat.le_trans (List.length_filter_le _ _) (by simp)
theorem cin_all {en : List Nat} {k : Nat} (hn : en.Nodup) (h : ∀ x ∈ en, x < k) : cin en k = en.length := by
  unfold cin
  refine Nat.le_antisymm (len_le (List.nodup_range.sublist List.filter_sublist) fun x hx => ?_) (len_le hn fun x hx => ?_)
  · simpa using (List.mem_filter.1 hx).2
  · exact List.mem_filter.2 ⟨List.mem_range.2 (h x hx), by simpa using hx⟩
/-- Ahead of a round: who is seen, who is still to be gone from. -/
structure Bf (E : Nat → List Nat) (O en l : List Nat) : Prop where
  nd : en.Nodup
  sub : ∀ x ∈ en, x ∈ O
  zero : 0 ∈ en
  cl : ∀ x ∈ en, x ∈ l ∨ ∀ t ∈ E x, t ∈ en
  lin : ∀ x ∈ l, x ∈ en
  len : l.length ≤ en.length
/-- In a round: a has been taken, its first j edges have been gone. -/
structure Bj (E : Nat → List Nat) (O en l : List Nat) (a j : Nat) : Prop where
  nd : en.Nodup
  sub : ∀ x ∈ en, x ∈ O
  zero : 0 ∈ en
  cl : ∀ x ∈ en, x ∈ l ∨ x = a ∨ ∀ t ∈ E x, t ∈ en
  part : ∀ t ∈ (E a).take j, t ∈ en
  lin : ∀ x ∈ l, x ∈ en
  len : l.length + 1 ≤ en.length
section
variable {E : Nat → List Nat} {O en l : List Nat} {a b j : Nat}
theorem Bf.start (h : 0 ∈ O) : Bf E O [0] [0] :=
  ⟨by simp, fun x hx => by rw [List.mem_singleton] at hx; rw [hx]; exact h, by simp, fun x hx => .inl hx, fun x hx => hx, Nat.le_refl _⟩
theorem Bf.take (h : Bf E O en (a :: l)) : Bj E O en l a 0 :=
  ⟨h.nd, h.sub, h.zero, fun x hx => by
    rcases h.cl x hx with h1 | h1
    · rcases List.mem_cons.1 h1 with h2 | h2
      · exact .inr (.inl h2)
      · exact .inl h2
    · exact .inr (.inr h1), fun t ht => by simp at ht, fun x hx => h.lin x (by simp [hx]), h.len⟩
theorem Bj.seen (h : Bj E O en l a j) (hx : (E a)[j]? = some b) (hb : b ∈ en) : Bj E O en l a (j + 1) :=
  ⟨h.nd, h.sub, h.zero, h.cl, fun t ht => by
    rw [List.take_add_one, hx] at ht
    rcases List.mem_append.1 ht with h1 | h1
    · exact h.part t h1
    · have : t = b := by simpa using h1
      rw [this]; exact hb, h.lin, h.len⟩
theorem Bj.add (h : Bj E O en l a j) (hx : (E a)[j]? = some b) (hb : b ∉ en) (hO : b ∈ O) : Bj E O (b :: en) (l ++ [b]) a (j + 1) :=
  ⟨List.nodup_cons.2 ⟨hb, h.nd⟩, fun x hx => by
    rcases List.mem_cons.1 hx with h1 | h1
    · rw [h1]; exact hO
    · exact h.sub x h1, List.mem_cons_of_mem _ h.zero, fun x hx => by
    rcases List.mem_cons.1 hx with h1 | h1
    · exact .inl (by rw [h1]; simp)
    · rcases h.cl x h1 with h2 | h2 | h2
      · exact .inl (by simp [h2])
      · exact .inr (.inl h2)
      · exact .inr (.inr fun t ht => List.mem_cons_of_mem _ (h2 t ht)), fun t ht => by
    rw [List.take_add_one, hx] at ht
    rcases List.mem_append.1 ht with h1 | h1
    · exact List.mem_cons_of_mem _ (h.part t h1)
    · have : t = b := by simpa using h1
      rw [this]; simp, fun x hx => by
    rcases List.mem_append.1 hx with h1 | h1
    · exact List.mem_cons_of_mem _ (h.lin x h1)
    · have : x = b := by simpa using h1
      rw [this]; simp, by have := h.len; simp; omega⟩
theorem Bj.done (h : Bj E O en l a (E a).length) : Bf E O en l :=
  ⟨h.nd, h.sub, h.zero, fun x hx => by
    rcases h.cl x hx with h1 | h1 | h1
    · exact .inl h1
    · refine .inr fun t ht => h.part t ?_
      rw [h1] at ht
      rw [List.take_length]; exact ht
    · exact .inr h1, h.lin, by have := h.len; omega⟩
theorem Bf.fin (h : Bf E O en []) (hO : O.Nodup) (hr : ∀ x ∈ O, Rch E 0 x) : en.length = O.length := by
  have hall : ∀ u v, Rch E u v → u ∈ en → v ∈ en := fun u v hv => by
    induction hv with
    | refl => exact fun h => h
    | step h1 h2 ih =>
      intro hu
      rcases h.cl _ (ih hu) with h3 | h3
      · cases h3
      · exact h3 _ h2
  exact Nat.le_antisymm (len_le h.nd h.sub) (len_le hO fun x hx => hall 0 x (hr x hx) h.zero)
end
end Cf
end Go.Proofs.Ytdodobpbdnpjiaa
namespace Go.Proofs.Ytdodobpbdnpjiaa
open Go Go.RowKit
open Kit (natVals)
attribute [local go_sem] Oper.semAt_some
/-- An edge that is told, and its place. -/
abbrev Ty (l : List (Nat × Nat)) := { x : Nat × (Nat × Nat) // l[x.1]? = some x.2 }
def tolde (l : List (Nat × Nat)) : Nat → List (Ty l)
  | 0 => []
  | k + 1 => tolde l k ++ (match h : l[k]? with | some c => [⟨(k, c), h⟩] | none => [])
theorem tolde_yes {l : List (Nat × Nat)} {k : Nat} {c : Nat × Nat} (h : l[k]? = some c) : tolde l (k + 1) = tolde l k ++ [⟨(k, c), h⟩] := by
  show tolde l k ++ _ = _
  congr 1
  split
  · rename_i d hd
    obtain rfl := Option.some.inj (hd.symm.trans h)
    rfl
  · rename_i hd
    rw [hd] at h
    cases h
theorem tolde_len (l : List (Nat × Nat)) : ∀ k, k ≤ l.length → (tolde l k).length = k
  | 0, _ => rfl
  | k + 1, h => by
    have hk : l[k]? = some l[k] := List.getElem?_eq_getElem (by omega)
    rw [tolde_yes hk, List.length_append, tolde_len l k (by omega)]
    rfl
def entY {l : List (Nat × Nat)} (x : Ty l) : Array Value := #[.int .i64 (x.1.2.1 : Int), .int .i64 (x.1.2.2 : Int)]
theorem eVals_at {l : List (Nat × Nat)} {k a b : Nat} (h : l[k]? = some (a, b)) : (eVals l)[k * 2]? = some (.int .i64 (a : Int)) ∧ (eVals l)[k * 2 + 1]? = some (.int .i64 (b : Int)) := by
  have hat := Kit.flat_at (f := fun e : Nat × Nat => [Value.int .i64 (e.1 : Int), .int .i64 (e.2 : Int)]) (s := 2) (fun _ => rfl) h
  exact ⟨hat 0 (by omega), hat 1 (by omega)⟩
set_option maxRecDepth 100000 in
set_option maxHeartbeats 1000000 in
theorem back1_stops (l : List (Nat × Nat)) (v : Value) (S : Nat → Prop) (Bs n : Nat) (w : World) (hn : 1 ≤ n) (hhi : ∀ k, S k → k < w.heap.size) (hb : ∀ X, Ks S w X → Kit.IsS 2 X v l.length (eVals l) ∧ X.cell? ⟨Bs, 0, none⟩ = some v) :
    SeqStopsK Fence.wide n Try.prog 35 #[.pointer (some ⟨Bs, 0, none⟩)] entY (Ks S) (fun ys => ys = tolde l l.length) (fun ys => ∃ k, k ≤ l.length ∧ ys = tolde l k) l.length w := fun D J Jx W hW hJ _ hY h0 => by
  have HB := hid hb
  obtain ⟨a, cap, hv⟩ := (hb w (Ks.refl _ _)).1.len
  subst hv
  have hlen := (hb w (Ks.refl _ _)).1.2.1
  have hKW : Ks S w W := (Ks.refl _ _).below hW hhi
  have hcW := (hb W hKW).2
  clear hb
  refine callsIn_of_wp Try.func35 rfl trivial ?_ rfl
  simp only [Try.ntmps35, List.size_toArray, List.length_cons, List.length_nil, Nat.reduceAdd, Nat.reduceSub, Array.replicate_succ, Array.replicate_zero, List.push_toArray, List.append_toArray, List.nil_append, List.cons_append]
  gi_wp2
  gi_loopw [7] (fun i wr => ∃ k : Nat, k ≤ l.length ∧ i = .int .i64 k ∧ J (tolde l k) wr ∧ W.heap.size ≤ wr.heap.size ∧ Ks S w wr) (fun i _ => l.length - (intOf i).toNat)
  case atStart => exact ⟨0, by omega, rfl, h0, Nat.le_refl _, hKW⟩
  case round =>
    obtain ⟨k, hk, rfl, hJs, hzW, hbl⟩ := hrel
    have hzr := hbl.1
    by_cases hlt : k < l.length
    · obtain ⟨⟨c, d⟩, hx⟩ : ∃ x, l[k]? = some x := ⟨l[k], List.getElem?_eq_getElem hlt⟩
      obtain ⟨b, o, cap', hv, -, hbb, hcs⟩ := (HB.out wr hbl).1.some (by omega)
      obtain ⟨rfl, -, rfl⟩ := Value.slice.inj hv
      have c0 := hcs _ _ (eVals_at hx).1
      have c1 := hcs _ _ (eVals_at hx).2
      rw [← Nat.add_assoc] at c1
      have hki : (k : Int) < (l.length : Int) := by omega
      have HT := hid (tolde_yes hx)
      have hln : (tolde l k).length < l.length := by rw [tolde_len l k hk]; omega
      have hJ2 : J (tolde l k) (wr.alloc (.cells #[.int .i64 (c : Int), .int .i64 (d : Int)] 77)) := hJ _ wr _ none hJs (World.grownBy_alloc wr _ none) (fun r e => by cases e)
      have hKA : Ks S wr (wr.alloc (.cells #[.int .i64 (c : Int), .int .i64 (d : Int)] 77)) := (Ks.refl _ _).below ((Below.refl _ _).alloc (Nat.le_refl wr.heap.size) _) (fun k h => by have := hhi k h; omega)
      have HKA := hid hKA
      have HY := hid (hY (tolde l k) ⟨(k, (c, d)), hx⟩ _ hJ2 hln)
      clear hv hcs hJ2 hKA
      obtain ⟨fn, tmps, assign, body, hy, hR⟩ := HY.out
      unfold entY at hy
      dsimp only at hy
      gi_wp2
      refine hR.mono ?_
      rintro e W3 (⟨rfl, hJ3, hk3⟩ | ⟨rfl, hJx3⟩)
      · gi_wp2
        go_roundw
        case rel => exact ⟨k + 1, by omega, by go_num, by rw [HT.out]; exact hJ3, (by have := hk3.1; have := HKA.out.1; omega), (hbl.trans HKA.out).trans hk3⟩
        case measure => simp [intOf]; omega
      · gi_wp2
        refine bodyPost_ret (results_none rfl _ _ _) rfl ?_
        exact ⟨⟨_, rfl⟩, .inr ⟨_, ⟨k + 1, by omega, HT.out.symm⟩, hJx3⟩⟩
    · obtain rfl : k = l.length := by omega
      gi_wp2
      refine bodyPost_end (results_none rfl _ _ _) rfl ?_
      exact ⟨⟨_, rfl⟩, .inl ⟨_, rfl, hJs⟩⟩
end Go.Proofs.Ytdodobpbdnpjiaa
namespace Go.Proofs.Ytdodobpbdnpjiaa
open Go Go.RowKit
open Kit (natVals)
open Cf (Op5)
set_option maxRecDepth 100000 in
set_option maxHeartbeats 400000 in
theorem bclone_some (n : Nat) (xs : List Value) (ad : Addr) (cap : Nat) (w : World) (hx : xs.length = n * 4) (hn : n * 64 ≤ 140737488355328) (hc : ∀ j u, xs[j]? = some u → w.cell? (ad.add j) = some u) (h1c : ∀ u ∈ xs, u.oneCell' = true) : Calls Try.prog 27 #[.slice (some ad) n cap] w (ClonePost 36 4 n xs w) := by
  obtain ⟨i0, hi, hz0, hz1, hz2⟩ := info_parts infoB
  have hnil := fun (W : World) (a : Option Addr) (n c : Nat) => Lib.run_eql_slice_nil (P := Try.prog) W 32 36 a n c 0 0 Try.underlying32
  have hlt : ∀ j u, xs[j]? = some u → (w.alloc (.cells #[] 36)).cell? (ad.add j) = some u := fun j u h => by
    have h2 := hc j u h
    rw [World.cell?_alloc_lt _ _ _ (World.block_lt_of_cell? w _ h2)]
    exact h2
  have HL := hid hlt
  have HLen := hid hx
  have H1 := hid h1c
  clear hc hlt hx h1c
  go_enter Try.func27, Try.ntmps27
  go_wp2_with (at_builtin; go_loud (refine wpList_append_own _ rfl (.tmp 5) (.tmp 6) 32 rfl w.heap.size 36 i0 _ 4 64 Try.underlying32 hi hz0 hz1 hz2 rfl (by decide) _ 0 [] rfl (owns_empty (Nat.le_refl _)) ad n cap xs rfl HLen.out HL.out H1.out (by unfold maxLen; omega) (by omega) (by simp) ?_); intro v1 w1 hown1 hgrow1 _)
  go_ret
  refine ⟨_, rfl, by simpa using hown1, Kit.below_grown (by repeat' first | with_reducible exact Below.refl _ _ | with_reducible assumption | with_reducible refine belows_drewN ?_ _ | with_reducible refine Below.drew ?_ | with_reducible refine Below.setCell ?_ ?_ _ | with_reducible refine Below.alloc ?_ ?_ _ | omega | (simp; done) | (simp; omega)) hgrow1 (by simp) (fun k hk => ?_)⟩
  have : some w.heap.size = some k := hk
  exact Nat.le_of_eq (Option.some.inj this)
theorem bclone_nil (c : Nat) (w : World) : Calls Try.prog 27 #[.slice none 0 c] w (ClonePost 36 4 0 [] w) := by
  have hnil := fun (W : World) (a : Option Addr) (n c : Nat) => Lib.run_eql_slice_nil (P := Try.prog) W 32 36 a n c 0 0 Try.underlying32
  go_enter Try.func27, Try.ntmps27
  go_wp2
  go_ret
  exact ⟨_, rfl, ⟨rfl, .inl ⟨rfl, rfl⟩⟩, (by repeat' first | with_reducible exact Below.refl _ _ | with_reducible assumption | with_reducible refine belows_drewN ?_ _ | with_reducible refine Below.drew ?_ | with_reducible refine Below.setCell ?_ ?_ _ | with_reducible refine Below.alloc ?_ ?_ _ | omega | (simp; done) | (simp; omega))⟩
theorem bclone_any (n : Nat) (xs : List Value) (v : Value) (w : World) (hv : Kit.IsS 4 w v n xs) (hn : n * 64 ≤ 140737488355328) (h1c : ∀ u ∈ xs, u.oneCell' = true) : Calls Try.prog 27 #[v] w (ClonePost 36 4 n xs w) := by
  rcases hv.2.2 with ⟨rfl, a, cap, rfl⟩ | ⟨b, o, cap, rfl, hl, hlt, hc⟩
  · have hxs : xs = [] := List.length_eq_zero_iff.1 (by have := hv.1; omega)
    subst hxs
    cases a with
    | none => exact bclone_nil cap w
    | some ad => exact bclone_some 0 [] ad cap w rfl (by omega) (fun j u h => by simp at h) (fun u h => by cases h)
  · exact bclone_some n xs ⟨b, o, none⟩ cap w hv.1 hn (fun j u h => by rw [Go.WideShapes.add_plain]; exact hc j u h) h1c
/-- Numbers that read as they did, or that are the call's own. -/
def RdN (w W : World) (v : Value) (l : List Nat) : Prop := Kit.IsS 1 w v l.length (natVals l) ∨ W.ownsRow w.heap.size 3 1 v l.length (natVals l)
theorem RdN.is {w W : World} {v : Value} {l : List Nat} (h : RdN w W v l) (hb : Below w.heap.size w W) (hl : l.length ≤ 2000000) : Kit.IsS 1 W v l.length (natVals l) := by
  rcases h with h | h
  · exact h.below hb (Nat.le_refl _)
  · exact Kit.isS_of_owns h (by omega)
theorem RdN.below {w W W' : World} {v : Value} {l : List Nat} (h : RdN w W v l) (hb : Below W.heap.size W W') : RdN w W' v l := by
  rcases h with h | h
  · exact .inl h
  · exact .inr (Kit.owns_below h hb (Nat.le_refl _))
structure BlI (w : World) (lb cap k : Nat) (L : List Op5) (B : Nat → Bool) (cl : Nat → List Nat) (nv cv : Nat → Value) (W : World) : Prop where
  row : W.ownsRow w.heap.size 36 4 (.slice (some ⟨lb, 0, none⟩) k cap) k ((List.range k).flatMap (Cf.bkV B L.length nv cv))
  nx : ∀ x, x < k → RdN w W (nv x) (Cf.nxs L B x)
  ca : ∀ x, x < k → RdN w W (cv x) (cl x)
  bel : Below w.heap.size w W
section
variable {w W W' : World} {lb cap k b : Nat} {L : List Op5} {B : Nat → Bool} {cl : Nat → List Nat} {nv cv : Nat → Value}
theorem BlI.below (h : BlI w lb cap k L B cl nv cv W) (hb : Below W.heap.size W W') : BlI w lb cap k L B cl nv cv W' :=
  ⟨Kit.owns_below h.row hb (Nat.le_refl _), fun x hx => (h.nx x hx).below hb, fun x hx => (h.ca x hx).below hb, belows h.bel hb h.bel.size⟩
theorem BlI.at (h : BlI w lb cap k L B cl nv cv W) (hb : b < k) : W.cell? ⟨lb, b * 4 + 2, none⟩ = some (nv b) ∧ W.cell? ⟨lb, b * 4 + 3, none⟩ = some (cv b) ∧ (∀ i, W.frozen? ⟨lb, i, none⟩ = false) ∧ lb < W.heap.size :=
  ⟨own_at4 h.row (Cf.bkV_len _ _ _ _) hb 2 _ (by omega) rfl, own_at4 h.row (Cf.bkV_len _ _ _ _) hb 3 _ (by omega) rfl, own_frz h.row rfl, Kit.own_lt h.row lb rfl⟩
theorem RdN.set (h : BlI w lb cap k L B cl nv cv W) {v : Value} {l : List Nat} (hr : RdN w W v l) (i : Nat) (u : Value) : RdN w (W.setCell ⟨lb, i, none⟩ u) v l := by
  rcases hr with hr | hr
  · exact .inl hr
  · exact .inr (owns_chg hr ((Chg.refl (fun j => j = lb) W).set (p := ⟨lb, i, none⟩) (.inl rfl) u) (fun j e e2 => own_unlike hr h.row (by decide) j e (by rw [e2]; rfl)))
theorem BlI.setN (h : BlI w lb cap k L B cl nv cv W) (hb : b < k) {v2 : Value} (h2 : W.ownsRow w.heap.size 3 1 v2 (Cf.nxs L B b).length (natVals (Cf.nxs L B b))) : BlI w lb cap k L B cl (upd nv b v2) cv (W.setCell ⟨lb, b * 4 + 2, none⟩ v2) := by
  refine ⟨?_, fun x hx => ?_, fun x hx => (h.ca x hx).set h _ _, Below.setCell h.bel (Kit.own_base h.row lb rfl) _⟩
  · have := owns_set h.row (b * 4 + 2) v2
    rw [rows_set (f := Cf.bkV B L.length nv cv) (f' := Cf.bkV B L.length (upd nv b v2) cv) (s := 4) (Cf.bkV_len _ _ _ _) hb (by omega) (by unfold Cf.bkV; rw [upd_same]; rfl) (fun y _ hy => by unfold Cf.bkV; rw [upd_other _ _ hy])] at this
    exact this
  · by_cases e : x = b
    · subst e
      rw [upd_same]
      exact RdN.set h (.inr h2) _ _
    · rw [upd_other _ _ e]
      exact (h.nx x hx).set h _ _
theorem BlI.setC (h : BlI w lb cap k L B cl nv cv W) (hb : b < k) {v2 : Value} (h2 : W.ownsRow w.heap.size 3 1 v2 (cl b).length (natVals (cl b))) : BlI w lb cap k L B cl nv (upd cv b v2) (W.setCell ⟨lb, b * 4 + 3, none⟩ v2) := by
  refine ⟨?_, fun x hx => (h.nx x hx).set h _ _, fun x hx => ?_, Below.setCell h.bel (Kit.own_base h.row lb rfl) _⟩
  · have := owns_set h.row (b * 4 + 3) v2
    rw [rows_set (f := Cf.bkV B L.length nv cv) (f' := Cf.bkV B L.length nv (upd cv b v2)) (s := 4) (Cf.bkV_len _ _ _ _) hb (by omega) (by unfold Cf.bkV; rw [upd_same]; rfl) (fun y _ hy => by unfold Cf.bkV; rw [upd_other _ _ hy])] at this
    exact this
  · by_cases e : x = b
    · subst e
      rw [upd_same]
      exact RdN.set h (.inr h2) _ _
    · rw [upd_other _ _ e]
      exact (h.ca x hx).set h _ _
end
end Go.Proofs.Ytdodobpbdnpjiaa
namespace Go.Proofs.Ytdodobpbdnpjiaa
open Go Go.RowKit
open Kit (natVals)
open Cf (Op5)
set_option maxRecDepth 100000
set_option maxHeartbeats 1000000
theorem Blocks_any {w : World} {base gb bb cap ob k : Nat} {L : List Op5} {B : Nat → Bool} {nv cv : Nat → Value} {cl : Nat → List Nat} {O : List Nat} {ov sv pv kv : Value} {bs : List (Nat × Nat)} (h : GT w base gb bb cap ob L B k nv cv cl O ov sv pv kv bs) (hk0 : 0 < k) (hk : k ≤ 1048576) (hl : ∀ x, x < k → (cl x).length ≤ 1048576) :
    Calls Try.prog 8 #[.pointer (some ⟨gb, 0, none⟩)] w fun e w' => ∃ lb c nv' cv', e = .returned (.slice (some ⟨lb, 0, none⟩) k c) ∧ BlI w lb c k L B cl nv' cv' w' := by
  have g0 := h.box.cell 0
  have hone : ∀ u ∈ (List.range k).flatMap (Cf.bkV B L.length nv cv), u.oneCell' = true := fun u hu => by
    obtain ⟨x, hx, hu⟩ := List.mem_flatMap.1 hu
    have hx := List.mem_range.1 hx
    obtain ⟨a1, c1, e1⟩ := own_form (h.nx x hx)
    obtain ⟨a2, c2, e2⟩ := own_form (h.ca x hx)
    unfold Cf.bkV at hu
    rw [e1, e2] at hu
    simp only [List.mem_cons, List.not_mem_nil, or_false] at hu
    rcases hu with rfl | rfl | rfl | rfl <;> rfl
  have HCl := hid (bclone_any k _ _ w (Kit.isS_of_owns h.bl (by omega)) (by omega) hone)
  have HH := hid h
  clear h hone
  go_enter Try.func8, Try.ntmps8
  go_upto_region 4 with (go_at_call 27; go_loud (refine HCl.out.mono ?_; rintro e w1 ⟨v1, rfl, ho, hb⟩; have HO := hid ho; have HB := hid hb; clear ho hb))
  have hform : ∃ lb c, v1 = .slice (some ⟨lb, 0, none⟩) k c := by
    rcases HO.out.2 with ⟨-, e⟩ | ⟨g, c, cur, e, -⟩
    · omega
    · exact ⟨g, c, e⟩
  obtain ⟨lb, c, rfl⟩ := hform
  have HI : Hid (BlI w lb c k L B cl nv cv w1) := ⟨HO.out, fun x hx => .inl (Kit.isS_of_owns (HH.out.nx x hx) (by have := Cf.nxs_len L B x; omega)), fun x hx => .inl (Kit.isS_of_owns (HH.out.ca x hx) (by have := hl x hx; omega)), HB.out⟩
  have HL := hid hl
  clear HO HB HCl g0 hl
  go_wp2
  go_loopw [14] (fun v wr => ∃ (i : Nat) (nv cv : Nat → Value), v = .int .i64 (i : Int) ∧ i ≤ k ∧ Hid (BlI w lb c k L B cl nv cv wr)) (fun v _ => k - (intOf v).toNat)
  case atStart => exact ⟨0, nv, cv, rfl, by omega, HI⟩
  case round =>
    clear HI HH
    obtain ⟨i, nv, cv, rfl, hik, HI⟩ := hrel
    by_cases hlt : i < k
    · obtain ⟨c2, -, -, hlb⟩ := HI.out.at hlt
      have HN := hid (iclone_any _ _ (nv i) wr ((HI.out.nx i hlt).is HI.out.bel (by have := Cf.nxs_len L B i; omega)) (by have := Cf.nxs_len L B i; omega) (natVals_one _))
      obtain ⟨nq, hnq⟩ : ∃ q, nv i = q := ⟨_, rfl⟩
      rw [hnq] at HN c2
      clear hnq
      go_upto_region 8 with (go_at_call 14; go_loud (refine HN.out.mono ?_; rintro e w2 ⟨v2, rfl, ho2, hb2⟩; obtain ⟨xa, xc, rfl⟩ := own_form ho2; have hI2 := HI.out.below hb2; have HS := hid (hI2.setN hlt (Kit.owns_mono ho2 HI.out.bel.size)); obtain ⟨d2, -, d4, dlb⟩ := hI2.at hlt; have f2 := d4 (i * 4 + 2); clear hI2 ho2 hb2 d4))
      refine region_named fun W3 hW3 => ?_
      rw [← hW3] at HS
      clear hW3 c2 hlb d2 f2 dlb HN HI
      obtain ⟨-, c3, -, hlb⟩ := HS.out.at hlt
      have hcl := HL.out i hlt
      have HC := hid (iclone_any _ _ (cv i) W3 ((HS.out.ca i hlt).is HS.out.bel (by omega)) (by omega) (natVals_one _))
      obtain ⟨cq, hcq⟩ : ∃ q, cv i = q := ⟨_, rfl⟩
      rw [hcq] at HC c3
      clear hcq hcl
      go_upto_region 9 with (go_at_call 14; go_loud (refine HC.out.mono ?_; rintro e w4 ⟨v4, rfl, ho4, hb4⟩; obtain ⟨xa4, xc4, rfl⟩ := own_form ho4; have hI4 := HS.out.below hb4; have HS4 := hid (hI4.setC hlt (Kit.owns_mono ho4 HS.out.bel.size)); obtain ⟨-, d3, d4, dlb⟩ := hI4.at hlt; have f3 := d4 (i * 4 + 3); clear hI4 ho4 hb4 d4))
      refine region_named fun W5 hW5 => ?_
      rw [← hW5] at HS4
      clear hW5 c3 hlb d3 f3 dlb HC HS
      go_wp2
      go_roundw
      case rel => exact ⟨i + 1, _, _, by go_num, by omega, HS4⟩
      case measure => simp [intOf]; omega
    · obtain rfl : i = k := by omega
      go_wp2
      go_ret
      exact ⟨lb, c, nv, cv, rfl, HI.out⟩
end Go.Proofs.Ytdodobpbdnpjiaa
namespace Go.Proofs.Ytdodobpbdnpjiaa
open Go Go.RowKit
open Kit (natVals)

attribute [local go_sem] Oper.semAt_some
set_option maxRecDepth 100000 in
theorem Back_any {w : World} {gb n c : Nat} {a : Option Addr} (k2 : w.cell? ⟨gb, 5, none⟩ = some (.slice a n c)) : Calls Try.prog 13 #[.pointer (some ⟨gb, 0, none⟩)] w fun e w' => e = .returned (.func (.func 35) #[] #[.pointer (some ⟨w.heap.size, 0, none⟩)]) ∧ w' = w.alloc (.cells #[.slice a n c] 54) := by
  have hgs := World.block_lt_of_cell? w _ k2
  have hbl : gb < w.heap.size := hgs
  clear hgs
  go_enter Try.func13, Try.ntmps13
  go_wp2
  go_ret
  exact ⟨rfl, rfl⟩
/-- One more at its end, as an operation. -/
theorem wpList_qs {ops : Array Oper} {rest : List Oper} {o : Oper} {a : Act} {w : World} {Q : Exit → Act → World → Prop} (hgd : o.guard = none) (s x : Operand)
    (hop : o.op = Op.call { callee := Callee.builtin Builtin.append, args := #[s, x], argTypes := #[34, 34] })
    (B : Nat) (v : Value) (l : List Nat) (hs : a.eval s = v) (h : QS w B v l) (hB : B ≤ w.heap.size) (y : Nat) (ad : Addr) (hx : a.eval x = .slice (some ad) 1 1) (hy : w.cell? ad = some (.int .i64 (y : Int))) (hl : l.length ≤ 4000000)
    (hK : ∀ v' w', QS w' B v' (l ++ [y]) → Chg (fun i => v.ownBlock = some i) w w' → (∀ j, v'.ownBlock = some j → v.ownBlock = some j ∨ w.heap.size ≤ j) → wpList Try.prog ops Q rest (a.put o.dst v') w') :
    wpList Try.prog ops Q (o :: rest) a w := by
  obtain ⟨v', w', hr, h1, h2, h3⟩ := h.app hB y ad hy hl o.type
  refine wpList_plain hgd fun K hK2 => ?_
  unfold Oper.wp execOp
  simp only [hop, resolve, invoke, builtin, Sem.run_bind, Sem.run_pure, Result.andThen_ok, List.map_toArray, List.map_cons, List.map_nil, hs, hx, hr]
  exact hK2 _ _ (hK v' w' h1 h2 h3)
/-- How long a list is. -/
def slen : Value → Nat
  | .slice _ n _ => n
  | _ => 0
theorem QS.slen {w : World} {base : Nat} {v : Value} {l : List Nat} (h : QS w base v l) : slen v = l.length := by
  obtain ⟨g, o, cap, cur, rfl, -⟩ := h
  rfl
theorem QS.form {w : World} {base : Nat} {v : Value} {l : List Nat} (h : QS w base v l) : ∃ g o c, v = .slice (some ⟨g, o, none⟩) l.length c := by
  obtain ⟨g, o, cap, cur, rfl, -⟩ := h
  exact ⟨g, o, cap, rfl⟩
theorem QS.base {w : World} {base : Nat} {v : Value} {l : List Nat} (h : QS w base v l) {q : Nat} (hq : v.ownBlock = some q) : base ≤ q := by
  obtain ⟨g, o, cap, cur, rfl, h1, -⟩ := h
  have : g = q := by simpa [Value.ownBlock] using hq
  omega
/-- How many of a row's cells are true. -/
def trues (W : World) (sb : Nat) (k : Nat) : Nat := ((List.range k).filter (fun i => match W.cell? ⟨sb, i, none⟩ with | some (.bool b) => b | _ => false)).length
/-- Who is seen. -/
def SeenR (W : World) (base sb k : Nat) (en : List Nat) : Prop := W.ownsRow base 4 1 (.slice (some ⟨sb, 0, none⟩) k k) k (bvals (fun i => decide (i ∈ en)) k)
theorem SeenR.at {W : World} {base sb k i : Nat} {en : List Nat} (h : SeenR W base sb k en) (hi : i < k) : W.cell? ⟨sb, i, none⟩ = some (.bool (decide (i ∈ en))) ∧ W.frozen? ⟨sb, i, none⟩ = false := own_cell h (bvals_at hi)
theorem SeenR.cin {W : World} {base sb k : Nat} {en : List Nat} (h : SeenR W base sb k en) : trues W sb k = Cf.cin en k := by
  unfold trues Cf.cin
  congr 1
  refine List.filter_congr fun i hi => ?_
  rw [(h.at (List.mem_range.1 hi)).1]
theorem SeenR.set {W : World} {base sb k : Nat} {en : List Nat} (h : SeenR W base sb k en) (b : Nat) : SeenR (W.setCell ⟨sb, b, none⟩ (.bool true)) base sb k (b :: en) := by
  refine owns_set1 h b _ (bvals_set fun i _ => ?_)
  by_cases e : i = b
  · simp [e]
  · simp [e]
theorem SeenR.chg {W W' : World} {base sb k : Nat} {en : List Nat} {S : Nat → Prop} (h : SeenR W base sb k en) (hc : Chg S W W') (hs : ¬ S sb) : SeenR W' base sb k en :=
  owns_chg h hc fun j e => by
    have : sb = j := by simpa [Value.ownBlock] using e
    rw [← this]; exact hs
theorem SeenR.ne {W : World} {base base' sb k : Nat} {en l : List Nat} {v : Value} (h : SeenR W base sb k en) (q : QS W base' v l) : v.ownBlock ≠ some sb := by
  obtain ⟨g, o, cap, cur, rfl, h1, h2, -⟩ := q
  intro e
  have e2 : g = sb := by simpa [Value.ownBlock] using e
  subst e2
  rcases h.2 with ⟨e3, -⟩ | ⟨g', cap', cur', e3, hg', hh', -⟩
  · cases e3
  · obtain ⟨e4, -, -⟩ := Value.slice.inj e3
    obtain rfl : g = g' := by simpa using e4
    rw [h2] at hh'
    have := (Obj.cells.inj (Option.some.inj hh')).2.1
    exact absurd this (by decide)
/-- A row is no map. -/
theorem own_not_map {w : World} {base : Nat} {e : TypeId} {size n : Nat} {v : Value} {xs : List Value} (h : w.ownsRow base e size v n xs) {mb : Nat} (hm : ∃ es c, w.heap[mb]? = some (.map es c)) : ∀ j, v.ownBlock = some j → j ≠ mb := by
  rintro j hj rfl
  obtain ⟨es, c, hm⟩ := hm
  rcases h.2 with ⟨rfl, -⟩ | ⟨g, cap, cur, rfl, hg, hh, -⟩
  · simp [Value.ownBlock] at hj
  · have : g = j := by simpa [Value.ownBlock] using hj
    subst this
    rw [hm] at hh
    cases hh
/-- Where the places stand, while they are told. -/
def FwJ (w : World) (mb : Nat) {O : List Nat} (pre : List (Tx O)) (W : World) : Prop := Chg (fun i => i = mb) w W ∧ PlM W mb (pre.map (fun x => x.1.2))
theorem FwJ.own {w : World} {mb : Nat} {O : List Nat} (hm : mb < w.heap.size) : OwnFrom w.heap.size (FwJ (O := O) w mb) := by
  rintro pre A B row ⟨h1, h2⟩ hg hr
  exact ⟨h1.grown hg (fun k e => .inr (hr k e).1), h2.keep (hg.block mb h2.lt (fun e => by have := (hr mb e.symm).1; omega))⟩
/-- A place is told a second time: that is never so. -/
def FwX {O : List Nat} (c : Go.Code) (pre : List (Tx O)) : Prop := c = .ret ∧ ∃ p x, pre = p ++ [x] ∧ x.1.2 ∈ p.map (fun x : Tx O => x.1.2)
theorem FwX.no {O : List Nat} (hO : O.Nodup) {c : Go.Code} {k : Nat} (hk : k ≤ O.length) (h : FwX c (told O k)) : False := by
  obtain ⟨-, p, x, h1, h2⟩ := h
  have e := told_map O k hk
  rw [h1, List.map_append] at e
  have hn : (O.take k).Nodup := hO.sublist (List.take_sublist _ _)
  rw [← e] at hn
  have := (List.nodup_append.1 hn).2.2 _ h2 x.1.2 (by simp)
  exact this rfl
/-- Where the edges stand, while they are told. -/
def FwK (w : World) (mb : Nat) {bs : List (Nat × Nat)} (pre : List (Ty bs)) (W : World) : Prop := Chg (fun i => i = mb) w W ∧ BkM W mb pre.length (pre.map (fun x => x.1.2))
theorem FwK.own {w : World} {mb : Nat} {bs : List (Nat × Nat)} (hm : mb < w.heap.size) : OwnFrom w.heap.size (FwK (bs := bs) w mb) := by
  rintro pre A B row ⟨h1, h2⟩ hg hr
  exact ⟨h1.grown hg (fun k e => .inr (hr k e).1), h2.keep (hg.block mb h2.lt (fun e => by have := (hr mb e.symm).1; omega))⟩
theorem tolde_map (l : List (Nat × Nat)) : ∀ k, k ≤ l.length → (tolde l k).map (fun x : Ty l => x.1.2) = l.take k
  | 0, _ => rfl
  | k + 1, h => by
    have hk : l[k]? = some l[k] := List.getElem?_eq_getElem (by omega)
    rw [tolde_yes hk, List.map_append, tolde_map l k (by omega), List.take_add_one, hk]
    rfl
/-- A row and a map lie apart, so what is written into the map leaves the row. -/
theorem owns_map {w w' : World} {base : Nat} {e : TypeId} {size n : Nat} {v : Value} {xs : List Value} (h : w.ownsRow base e size v n xs) {mb : Nat} (hm : ∃ es c, w.heap[mb]? = some (.map es c)) (hc : Chg (fun i => i = mb) w w') : w'.ownsRow base e size v n xs :=
  owns_chg h hc (own_not_map h hm)
theorem bx_not_map {W : World} {b mb : Nat} {cs : Array Value} {T : TypeId} (h : BX W b cs T) (hm : ∃ es c, W.heap[mb]? = some (.map es c)) : b ≠ mb := by
  rintro rfl
  obtain ⟨es, c, hm⟩ := hm
  have := hm.symm.trans h
  cases this
section
open Cf (Op5)
/-- What the law has made, at a world. -/
structure FwG (w w4 : World) (base gb lb lc k lB mB pB : Nat) (gc : Array Value) (L : List Op5) (B : Nat → Bool) (cl : Nat → List Nat) (nq cq : Nat → Value) (O : List Nat) (kv : Value) (bs : List (Nat × Nat)) (W : World) : Prop where
  bel : Below w.heap.size w W
  res : BX W (w.heap.size + 1) #[.bool false] 4
  lbx : BX W lB #[.slice (some ⟨lb, 0, none⟩) k lc] 32
  pbx : BX W pB #[.map (some mB)] 42
  it : BlI w4 lb lc k L B cl nq cq W
  box : BX W gb gc 56
  bk : W.ownsRow base 77 2 kv bs.length (eVals bs)
  plm : PlM W mB O
variable {w w4 : World} {base gb lb lc k lB mB pB : Nat} {gc : Array Value} {L : List Op5} {B : Nat → Bool} {cl : Nat → List Nat} {nq cq : Nat → Value} {O : List Nat} {kv : Value} {bs : List (Nat × Nat)} {W W' : World}
theorem FwG.below (h : FwG w w4 base gb lb lc k lB mB pB gc L B cl nq cq O kv bs W) (hb : Below W.heap.size W W') : FwG w w4 base gb lb lc k lB mB pB gc L B cl nq cq O kv bs W' :=
  ⟨belows h.bel hb h.bel.size, h.res.below hb, h.lbx.below hb, h.pbx.below hb, h.it.below hb, h.box.below hb, Kit.owns_below h.bk hb (Nat.le_refl _), h.plm.keep (hb.block _ h.plm.lt)⟩
theorem BlI.map (h : BlI w4 lb lc k L B cl nq cq W) {m : Nat} (hm : ∃ es c, W.heap[m]? = some (.map es c)) (h4 : w4.heap.size ≤ m) (hc : Chg (fun i => i = m) W W') : BlI w4 lb lc k L B cl nq cq W' := by
  have hr : ∀ {v : Value} {l : List Nat}, RdN w4 W v l → RdN w4 W' v l := fun hr => by
    rcases hr with hr | hr
    · exact .inl hr
    · exact .inr (owns_map hr hm hc)
  exact ⟨owns_map h.row hm hc, fun x hx => hr (h.nx x hx), fun x hx => hr (h.ca x hx), h.bel.trans (hc.to_below (fun i e => by omega) h.bel.size)⟩
theorem FwG.map (h : FwG w w4 base gb lb lc k lB mB pB gc L B cl nq cq O kv bs W) {m : Nat} (hm : ∃ es c, W.heap[m]? = some (.map es c)) (h4 : w4.heap.size ≤ m) (hw : w.heap.size ≤ m) (hne : mB ≠ m) (hc : Chg (fun i => i = m) W W') : FwG w w4 base gb lb lc k lB mB pB gc L B cl nq cq O kv bs W' :=
  ⟨h.bel.trans (hc.to_below (fun i e => by omega) h.bel.size), h.res.chg hc (bx_not_map h.res hm), h.lbx.chg hc (bx_not_map h.lbx hm), h.pbx.chg hc (bx_not_map h.pbx hm), h.it.map hm h4 hc, h.box.chg hc (bx_not_map h.box hm), owns_map h.bk hm hc, h.plm.keep (hc.block _ h.plm.lt hne)⟩
end
end Go.Proofs.Ytdodobpbdnpjiaa
namespace Go.Proofs.Ytdodobpbdnpjiaa
open Go Go.RowKit
open Kit (natVals)
attribute [local go_sem] Oper.semAt_some
theorem Ks.set {S : Nat → Prop} {A B : World} {b : Nat} (h : Ks S A B) (hp : ¬ S b) (u : Value) : Ks S A (B.setCell ⟨b, 0, none⟩ u) :=
  h.trans ⟨(grownBy_setCell' B b u).size, fun i hi => Below.heap_setCell _ _ _ i (fun e => hp (by have e2 : i = b := e; rw [← e2]; exact hi))⟩
/-- Where the law's loop stands. -/
def TeJ {l : List Nat} (v : Value) (stop : Int) (hi : Nat) (w : World) (pre : List (Tx l)) (W : World) : Prop :=
  Boxed W w.heap.size 34 v ∧ Boxed W (w.heap.size + 1) 3 (.int .i64 stop) ∧ Boxed W (w.heap.size + 1 + 1) 4 (.bool false) ∧ Boxed W (w.heap.size + 1 + 1 + 1) 3 (.int .i64 (pre.length : Nat)) ∧ Below w.heap.size w W ∧ hi ≤ W.heap.size
theorem TeJ.own {l : List Nat} {v : Value} {stop : Int} {hi n : Nat} {w : World} (hn : w.heap.size ≤ n) : OwnFrom n (TeJ (l := l) v stop hi w) := by
  rintro pre A B row ⟨h0, h1, h2, h3, h5, h6⟩ hg hr
  exact ⟨boxed_own _ _ (fun _ : Unit => v) () A B row h0 hg (fun r e => (hr r e).2), boxed_own _ _ (fun _ : Unit => .int .i64 stop) () A B row h1 hg (fun r e => (hr r e).2), boxed_own _ _ (fun _ : Unit => .bool false) () A B row h2 hg (fun r e => (hr r e).2), boxed_own _ _ (fun _ : Unit => .int .i64 (pre.length : Nat)) () A B row h3 hg (fun r e => (hr r e).2), h5.grown hg h5.size (fun k e => by have := (hr k e).1; omega), Nat.le_trans h6 hg.size⟩
/-- Where it stands when it stops. -/
def TeX {l : List Nat} (w : World) (pre : List (Tx l)) (W : World) : Prop :=
  Hid (∃ b : Bool, Boxed W (w.heap.size + 1 + 1) 4 (.bool b) ∧ (b = false → ∃ p x, pre = p ++ [x] ∧ x.1.1 ≠ p.length)) ∧ Below w.heap.size w W
theorem TeX.own {l : List Nat} {n : Nat} {w : World} (hn : w.heap.size ≤ n) : OwnFrom n (TeX (l := l) w) := by
  rintro pre A B row ⟨⟨b, h1, h2⟩, h7⟩ hg hr
  exact ⟨⟨b, boxed_own _ _ (fun _ : Unit => .bool b) () A B row h1 hg (fun r e => (hr r e).2), h2⟩, h7.grown hg h7.size (fun k e => by have := (hr k e).1; omega)⟩
theorem TeX.is {l : List Nat} {w W : World} {k : Nat} (hk : k ≤ l.length) (h : TeX w (told l k) W) : Boxed W (w.heap.size + 1 + 1) 4 (.bool true) ∧ Below w.heap.size w W := by
  obtain ⟨⟨b, h1, h2⟩, h7⟩ := h
  refine ⟨?_, h7⟩
  cases b with
  | true => exact h1
  | false =>
    obtain ⟨p, x, h3, h4⟩ := h2 rfl
    exact absurd (told_last hk h3) h4
set_option maxRecDepth 100000 in
set_option maxHeartbeats 4000000 in
theorem tells_any (l : List Nat) (ov v : Value) (stop : Int) (Bs : Nat) (w : World) (hit : ∀ X, Ks (fun k => k < w.heap.size) w X → Kit.IsS 1 X ov l.length (natVals l) ∧ X.cell? ⟨Bs, 0, none⟩ = some ov) (hv : Kit.IsS 1 w v l.length (natVals l)) (hn : l.length ≤ 1000) :
    Calls Try.prog 15 #[.func (.func 34) #[] #[.pointer (some ⟨Bs, 0, none⟩)], v, .int .i64 stop] w fun e w' => e = .returned (.bool true) ∧ Below w.heap.size w w' := by
  have HV := hid (fun W (h : Below w.heap.size w W) => hv.below h (Nat.le_refl _))
  obtain ⟨a, cap, hv2⟩ := hv.len
  subst hv2
  have hlen := hv.2.1
  have HIT := hid hit
  clear hv hit
  refine (callsIn_wide (n := 5)).1 ?_
  refine callsIn_of_wp_marks Try.func15 rfl trivial ?_ rfl
  simp only [Try.ntmps15, List.size_toArray, List.length_cons, List.length_nil, Nat.reduceAdd, Nat.reduceSub, Array.replicate_succ, Array.replicate_zero, List.push_toArray, List.append_toArray, List.nil_append, List.cons_append]
  gi_wp2
  have b0 := (((Boxed.new w 34 (.slice a l.length cap)).alloc (.cells #[.int .i64 stop] 3)).alloc (.cells #[.bool false] 4)).alloc (.cells #[.int .i64 0] 3)
  have b1 := ((Boxed.new (w.alloc (.cells #[.slice a l.length cap] 34)) 3 (.int .i64 stop)).alloc (.cells #[.bool false] 4)).alloc (.cells #[.int .i64 0] 3)
  have b2 := (Boxed.new ((w.alloc (.cells #[.slice a l.length cap] 34)).alloc (.cells #[.int .i64 stop] 3)) 4 (.bool false)).alloc (.cells #[.int .i64 0] 3)
  have b3 := Boxed.new (((w.alloc (.cells #[.slice a l.length cap] 34)).alloc (.cells #[.int .i64 stop] 3)).alloc (.cells #[.bool false] 4)) 3 (.int .i64 0)
  simp only [World.size_alloc] at b0 b1 b2 b3
  have hB0 : Below w.heap.size w ((((w.alloc (.cells #[.slice a l.length cap] 34)).alloc (.cells #[.int .i64 stop] 3)).alloc (.cells #[.bool false] 4)).alloc (.cells #[.int .i64 0] 3)) := ((((Below.refl _ w).alloc (Nat.le_refl _) (.cells #[.slice a l.length cap] 34)).alloc (by simp only [World.size_alloc]; omega) (.cells #[.int .i64 stop] 3)).alloc (by simp only [World.size_alloc]; omega) (.cells #[.bool false] 4)).alloc (by simp only [World.size_alloc]; omega) (.cells #[.int .i64 0] 3)
  have hsz : ((((w.alloc (.cells #[.slice a l.length cap] 34)).alloc (.cells #[.int .i64 stop] 3)).alloc (.cells #[.bool false] 4)).alloc (.cells #[.int .i64 0] 3)).heap.size = w.heap.size + 4 := by simp only [World.size_alloc]
  obtain ⟨w3, hw3⟩ : ∃ w3, ((((w.alloc (.cells #[.slice a l.length cap] 34)).alloc (.cells #[.int .i64 stop] 3)).alloc (.cells #[.bool false] 4)).alloc (.cells #[.int .i64 0] 3)) = w3 := ⟨_, rfl⟩
  rw [hw3] at b0 b1 b2 b3 hB0 hsz ⊢
  clear hw3
  have hkX : Hid (∀ X, Ks (fun k => k < w.heap.size) w3 X → Kit.IsS 1 X ov l.length (natVals l) ∧ X.cell? ⟨Bs, 0, none⟩ = some ov) := fun X hX => HIT.out X ⟨Nat.le_trans hB0.size hX.1, fun k h2 => (hX.2 k h2).trans (hB0.block k h2)⟩
  have hB3z := hB0.size
  have hkp0 : Ks (fun k => k < w.heap.size) w3 w3 := Ks.refl _ _
  refine wpIn_rangeFunc_ownH rfl (by omega) (gf := 34) (lb := #[.pointer (some ⟨Bs, 0, none⟩)]) rfl trivial (enters_of Try.func34 (by kernel_rfl) rfl)
    (order1_stops l ov (fun k => k < w.heap.size) Bs (5 - 1) w3 (by omega) (fun k h => by omega) hkX.out) (fun h k => Ks.trans h k) (Ks.putObj (fun k h => by omega)) (Below.refl _ _) (fun _ => rfl)
    (TeJ (.slice a l.length cap) stop w3.heap.size w) (fun c' pre W => c' = .ret ∧ TeX w pre W) (TeJ.own hB0.size) (fun c' pre A B row h hg hr => ⟨h.1, TeX.own hB0.size pre A B row h.2 hg hr⟩)
    ⟨b0, b1, b2, b3, hB0, Nat.le_refl _⟩
    (fun x a' W => a' = { tmps := #[.func (.func 34) #[] #[.pointer (some ⟨Bs, 0, none⟩)], .slice a l.length cap, .int .i64 stop, undef, .pointer (some ⟨w.heap.size, 0, none⟩), .pointer (some ⟨w.heap.size + 1, 0, none⟩), .pointer (some ⟨w.heap.size + 1 + 1, 0, none⟩), .pointer (some ⟨w.heap.size + 1 + 1 + 1, 0, none⟩), .int .i64 (x.1.2 : Int), .func (.func 34) #[] #[.pointer (some ⟨Bs, 0, none⟩)], .int .i64 (x.1.2 : Int), undef, undef, undef, undef, undef, undef, undef, undef, undef, undef, undef, undef, undef, undef, undef, undef, undef, undef, undef, undef, undef], defers := [] })
    (fun x a' => Own.from (fun s A B row hs hg hr => hs) _) ?assign ?body ?done ?stop
  case assign =>
    rintro D pre ⟨⟨k, c⟩, hx⟩ W K hI hK
    unfold entE
    gi_wp2
    exact hK _ _ ((⟨Nat.le_refl _, fun _ _ h _ => h⟩ : KeepsOthers W W).from _) (Ks.refl _ W) hI rfl
  case body =>
    rintro D pre ⟨⟨k, c⟩, hx⟩ a' W hl ⟨r, hr⟩ ⟨i0, i1, i2, i3, hB, hh⟩ rfl hlt
    have c0 := i0.cell
    have c1 := i1.cell
    have c2 := i2.cell
    have c3 := i3.cell
    have f2 := i2.frozen
    have f3 := i3.frozen
    have HW := hid (HV.out W hB)
    have hkl : k < l.length := (List.getElem?_eq_some_iff.1 hx).1
    have hpl : IntKind.i64.wrap ((pre.length : Int) + 1) = (pre.length : Int) + 1 := IntWalk.i64_in _ (by omega)
    dsimp only
    have hhz := hB.size
    by_cases hC : l[pre.length]? = some c
    · have hlp := (List.getElem?_eq_some_iff.1 hC).1
      obtain ⟨b, o, cap', hv, -, hbb, hcs⟩ := HW.out.some (by omega)
      obtain ⟨rfl, -, rfl⟩ := Value.slice.inj hv
      have d0 := hcs pre.length _ (Kit.natVals_at hC)
      have hge : decide (l.length ≤ pre.length) = false := by simp; omega
      have hge2 : ¬ ((l.length : Int) ≤ (pre.length : Int)) := by omega
      have hge3 : (pre.length : Int) < (l.length : Int) := by omega
      clear hcs hv hC hlen
      gi_wp2
      · exact ⟨((KeepsOthers.setCell _ _ _).trans (KeepsOthers.setCell _ _ _)).from _, rfl, ⟨true, (i2.other (by omega) _).set _, fun h => by cases h⟩, (by repeat' first | with_reducible exact hB | with_reducible exact Below.refl _ _ | with_reducible refine belows_drewN ?_ _ | with_reducible refine Below.drew ?_ | with_reducible refine Below.setCell ?_ ?_ _ | omega | (simp; omega))⟩
      · have el : (.int .i64 ((pre.length : Int) + 1) : Value) = .int .i64 (((pre ++ [(⟨(k, c), hx⟩ : Tx l)]).length : Nat) : Int) := by simp
        exact ⟨(KeepsOthers.setCell _ _ _).from _, (Ks.refl (fun k => k < w.heap.size) W).set (by omega) _, i0.other (by omega) _, i1.other (by omega) _, i2.other (by omega) _, by rw [← el]; exact i3.set _, (by repeat' first | with_reducible exact hB | with_reducible exact Below.refl _ _ | with_reducible refine belows_drewN ?_ _ | with_reducible refine Below.drew ?_ | with_reducible refine Below.setCell ?_ ?_ _ | omega | (simp; omega)), by simp only [World.size_setCell]; omega⟩
    · have hne : k ≠ pre.length := by rintro rfl; exact hC hx
      have HNe := hid hne
      by_cases hlp : l.length ≤ pre.length
      · have hge : decide (l.length ≤ pre.length) = true := by simpa using hlp
        have HX := hid hx
        have hge2 : ((l.length : Int) ≤ (pre.length : Int)) := by omega
        clear hC hne hlen hlp hge hlt hkl hpl HX
        gi_wp2
        exact ⟨(KeepsOthers.setCell _ _ _).from _, rfl, ⟨false, i2.set _, fun _ => ⟨pre, _, rfl, HNe.out⟩⟩, (by repeat' first | with_reducible exact hB | with_reducible exact Below.refl _ _ | with_reducible refine belows_drewN ?_ _ | with_reducible refine Below.drew ?_ | with_reducible refine Below.setCell ?_ ?_ _ | omega | (simp; omega))⟩
      · obtain ⟨y, hy⟩ : ∃ y, l[pre.length]? = some y := ⟨_, List.getElem?_eq_getElem (by omega)⟩
        have hyc : ¬ ((c : Int) = (y : Int)) := by
          intro e
          apply hC
          rw [hy]
          congr 1
          omega
        obtain ⟨b, o, cap', hv, -, hbb, hcs⟩ := HW.out.some (by omega)
        obtain ⟨rfl, -, rfl⟩ := Value.slice.inj hv
        have d0 := hcs pre.length _ (Kit.natVals_at hy)
        have hge : decide (l.length ≤ pre.length) = false := by simp; omega
        have hge2 : ¬ ((l.length : Int) ≤ (pre.length : Int)) := by omega
        have hge3 : (pre.length : Int) < (l.length : Int) := by omega
        clear hcs hv hC hlen hne hy
        gi_wp2
        exact ⟨(KeepsOthers.setCell _ _ _).from _, rfl, ⟨false, i2.set _, fun _ => ⟨pre, _, rfl, HNe.out⟩⟩, (by repeat' first | with_reducible exact hB | with_reducible exact Below.refl _ _ | with_reducible refine belows_drewN ?_ _ | with_reducible refine Below.drew ?_ | with_reducible refine Below.setCell ?_ ?_ _ | omega | (simp; omega))⟩
  case done =>
    rintro D ys W hD rfl ⟨i0, i1, i2, i3, hB, hh⟩ hK
    have c0 := i0.cell
    have c2 := i2.cell
    have c3 := i3.cell
    have f2 := i2.frozen
    rw [told_len l l.length (Nat.le_refl _)] at c3
    have hd : ((l.length : Int) == (l.length : Int)) = true := by simp
    gi_wp2
    have hK' := (KeepsOthers.setCell W ⟨w.heap.size + 1 + 1, 0, none⟩ (.bool true)).same D _ hK rfl
    refine ⟨by simp, .inl ⟨_, _, rfl, run_takeDeferred hK', ?_⟩⟩
    have hc5 := cell_kept (World.cell?_setCell_same' W ⟨w.heap.size + 1 + 1, 0, none⟩ (.bool true) (by rw [c2]; rfl)) (grownBy_putObj' _ D (.deferred none)) (fun r e => by cases e; exact ⟨_, hK', rfl⟩)
    refine ⟨.bool true, ?_, rfl, (hB.setCell (p := ⟨w.heap.size + 1 + 1, 0, none⟩) (by show w.heap.size ≤ w.heap.size + 1 + 1; omega) _).trans (belowK_b (w := w) (Nat.le_refl _) _ D _ _ (by omega) hK' rfl rfl)⟩
    simp [results, Try.f15, go_sem, hc5]
  case stop =>
    rintro D c' pre W hD ⟨k, hk, rfl⟩ ⟨rfl, hX⟩ hK
    obtain ⟨i2, hB⟩ := hX.is hk
    clear hX
    gi_wp2
    refine ⟨by simp, .inl ⟨_, _, rfl, run_takeDeferred hK, ?_⟩⟩
    have hc2 := cell_kept i2.cell (grownBy_putObj' _ D (.deferred none)) (fun r e => by cases e; exact ⟨_, hK, rfl⟩)
    refine ⟨.bool true, ?_, rfl, hB.trans (belowK_b (w := w) (Nat.le_refl _) _ D _ _ (by omega) hK rfl rfl)⟩
    simp [results, Try.f15, go_sem, hc2]
end Go.Proofs.Ytdodobpbdnpjiaa
