/- Own texts for the claim, part 1. -/
import Derived.WalkKit
import Derived.ProofKit
import Derived.OpenShut
import Derived.Test.YtahjnaoabfkpcaaDoorProg
import Derived.Test.YtahjnaoabfkpcaaDoorCards
import Derived.Test.YtahjnaoabfkpcaaDoorTie
import Derived.Deep.DeepHandedRow
import Derived.Lib.LaidIn
import Derived.Lib.LaidU8
import Derived.Stop.LaidErr
import Derived.Lib.Bytealg
import Derived.Lib.Strings
import Derived.Maps.AppendAt
import Derived.Deep.RegionLaw
import Derived.RegionDies
import Derived.BigCall
import Derived.Maps.Own
import Derived.Maps.OwnOps
import Derived.Maps.OwnSet
import Derived.Maps.Views
import Derived.StringKeys
import Derived.Deep.QuietTactic
import Derived.BigRegion
import Derived.Lib.SliceRun
import Derived.Deep.WholeRow
namespace Go.Proofs.YtahjnaoabfkpcaaDoor.Kit
open Go Go.RowKit Go.ChangeShapes Go.WideShapes Go.ChangeAt

section
variable {H : Type} {enc : TypeId × Value → H} {P : Program}
/-- Arguments read in a later world as they did. -/
theorem trodAll_later (hl : laidOutB P = true) {W W' : World} (hb : Below W.heap.size W W') (sp : Nat → Bool) :
    ∀ {ts : List TypeId} {vs : List Value} {ds : List (DataW H)} {ps : List MemPlace}, (∀ t ∈ ts, P.readableRec t = true ∧ t < P.types.size) → DataW.TrodAll enc P W 0 (fun _ => true) true ts vs ds ps →
      (∀ x ∈ ps, x.block < W.heap.size) → (∀ x ∈ ps, sp x.block = true) → DataW.TrodAll enc P W' 0 sp true ts vs ds ps
  | [], vs, ds, ps, _, h, _, _ => by
    obtain ⟨rfl, rfl, rfl⟩ := trodAll_nil h
    exact trodAll_mk0
  | t :: ts, vs, ds, ps, hr, h, hlt, hsp => by
    obtain ⟨v, vs', d, ds', p, q, rfl, rfl, rfl, h0, h1⟩ := trodAll_cons h
    exact trodAll_cons_mk (WideElems.Trod_stays hl (hr t (by simp)).1 (hr t (by simp)).2 h0 (fun x hx => hb.same (hlt x (by simp [hx]))) (fun x hx => hsp x (by simp [hx])))
      (trodAll_later hl hb sp (fun t ht => hr t (by simp [ht])) h1 (fun x hx => hlt x (by simp [hx])) (fun x hx => hsp x (by simp [hx])))
/-- A law's answer: true; all that it was handed reads as it did. -/
theorem law_post {f : Func} {s : ChangeSpec} {apart fresh handsOn again : Bool} {W W' : World} {args : Array Value} {ds gs : List (DataW H)} {before : List MemPlace} {tb : TypeId}
    (hv : s.vars = []) (hr : f.resultTypes = #[tb]) (htb : P.underlying tb = some .bool) (hl : laidOutB P = true) (hrd : ∀ t ∈ f.params.toList, P.readableRec t = true ∧ t < P.types.size)
    (hW : DataW.Whole enc P f.params.toList s.vars apart W args.toList ds gs before)
    (hfn : s.fn H (ds ++ gs) = { results := [.lit (.bool true)], args := ds }) (hb : Below W.heap.size W W') :
    s.post enc P f apart fresh handsOn again W args (.bool true) W' := by
  have hlt : ∀ p ∈ before, p.block < W.heap.size := fun p hp => hW.lt p hp
  have hW' := hW
  obtain ⟨p, q, hA, hV, rfl, hfz, hnd⟩ := hW
  rw [hv] at hV
  obtain ⟨rfl, rfl⟩ := trodVars_none hV
  simp only [List.append_nil] at hlt hfz hnd hW' hfn ⊢
  have hres : ∀ (b : Nat) (sp : Nat → Bool) (hd : Bool), DataW.TrodAll enc P W' b sp hd f.resultTypes.toList ((Value.bool true).resultList f.resultTypes.size) (s.fn H ds).results [] := by
    intro b sp hd
    rw [hr, hfn]
    exact trodAll_cons_mk (shut_bool htb _) trodAll_mk0
  have hargs : ∀ sp : Nat → Bool, (∀ x ∈ p, sp x.block = true) → DataW.TrodAll enc P W' 0 sp true f.params.toList args.toList (s.fn H ds).args p := by
    intro sp hsp
    rw [hfn]
    exact trodAll_later hl hb sp hrd hA hlt hsp
  have hvs : ∀ sp : Nat → Bool, DataW.TrodVars enc P W' sp s.vars (s.fn H ds).vars [] := by
    intro sp
    rw [hv, hfn]
    rfl
  have hold : ∀ x ∈ p, (fun b => decide (b < W.heap.size)) x.block = true := fun x hx => by simpa using hlt x hx
  refine ⟨ds, [], p, [], p, [], hW', ?_, ?_, ?_, World.keptBut_mono (fun x hx => ⟨hx, .inr (.inl hx)⟩) (hb.frame (· ∈ p)), fun _ => ?_⟩
  · rw [List.append_nil]; exact hres _ _ _
  · rw [List.append_nil]; exact hargs _ hold
  · rw [List.append_nil]; exact hvs _
  · refine ⟨ok_one hr rfl (okWide_bool_mk htb _), _, _, ([] ++ p) ++ [], ⟨[] ++ p, [], trodAll_append (hargs _ (fun _ _ => rfl)) (hres _ _ _), hvs _, rfl, ?_, ?_⟩, ?_⟩
    · intro b off hp
      have hin : MemPlace.cell b off ∈ p := by simpa using hp
      have := hb.frozen (p := ⟨b, off, none⟩) (hlt _ hin)
      rw [this]
      exact hfz b off hin
    · intro ha
      simpa using hnd ha
    · intro x hx _
      simpa using hx
end
end Go.Proofs.YtahjnaoabfkpcaaDoor.Kit
namespace Go.Proofs.YtahjnaoabfkpcaaDoor
open Go.ChangeShapes Go.WideShapes Go.ChangeAt Go.RowKit

theorem own : ownKnob Tryd.prog.godebug = none := by kernel_rfl
/-- A block with other cells. -/
def putCells (cs : Array Value) : Obj → Obj
  | .cells _ t frozen => .cells cs t frozen
  | o => o
/-- A world that holds the tables. -/
noncomputable def laidWorld (os : Os) : World :=
  { World.holding Tryd.prog os ⟨#[], #[], []⟩ with
    heap := ((World.holding Tryd.prog os ⟨#[], #[], []⟩).heap.modify 0 (putCells (Lib.firstTab.map fun z => Value.int .u8 z).toArray)).modify 1 (putCells ((List.range 16).flatMap fun i => [Value.int .u8 (Lib.accLo i), Value.int .u8 (Lib.accHi i)]).toArray) }
end Go.Proofs.YtahjnaoabfkpcaaDoor
namespace Go.Proofs.YtahjnaoabfkpcaaDoor
namespace Ty

abbrev bl (s : ByteArray) : List UInt8 := s.data.toList
theorem ba_ext {a b : ByteArray} (h : bl a = bl b) : a = b := by
  cases a; cases b
  simp only [bl, Array.toList_inj] at h
  rw [h]
theorem bl_len (s : ByteArray) : (bl s).length = s.size := Lib.size_eq s |>.symm
theorem bl_ext (s : ByteArray) (a b : Nat) : bl (s.extract a b) = ((bl s).drop a).take (b - a) := Lib.extract_data s a b
theorem bl_from (s : ByteArray) (a : Nat) : bl (s.extract a s.size) = (bl s).drop a := by
  rw [bl_ext, List.take_of_length_le (by rw [List.length_drop, bl_len]; omega)]
theorem bl_upto (s : ByteArray) (b : Nat) : bl (s.extract 0 b) = (bl s).take b := by
  rw [bl_ext]; simp
def mk (l : List UInt8) : ByteArray := ⟨l.toArray⟩
theorem bl_mk (l : List UInt8) : bl (mk l) = l := by simp [mk, bl]
theorem mk_bl (s : ByteArray) : mk (bl s) = s := ba_ext (bl_mk _)
theorem mk_of {s : ByteArray} {l : List UInt8} (h : bl s = l) : s = mk l := by rw [← h, mk_bl]
theorem mk_size (l : List UInt8) : (mk l).size = l.length := by rw [← bl_len, bl_mk]
theorem bl_app (a b : ByteArray) : bl (a ++ b) = bl a ++ bl b := by simp [bl]
theorem str_eq (s : ByteArray) : s.toList = bl s := Lib.toList_data s
/-- How many brackets stand ahead. -/
def br : List UInt8 → Nat
  | [] => 0
  | x :: l => if x = 91 then br l + 1 else 0
theorem br_yes (l : List UInt8) : br (91 :: l) = br l + 1 := by simp [br]
theorem br_no {x : UInt8} (l : List UInt8) (h : x ≠ 91) : br (x :: l) = 0 := by simp [br, h]
theorem br_le : ∀ l : List UInt8, br l ≤ l.length
  | [] => by simp [br]
  | x :: l => by
    by_cases h : x = 91
    · subst h; rw [br_yes, List.length_cons]; have := br_le l; omega
    · rw [br_no l h]; omega
theorem br_in : ∀ {l : List UInt8} {k : Nat}, k < br l → l[k]? = some 91
  | [], k, h => by simp [br] at h
  | x :: l, k, h => by
    by_cases e : x = 91
    · subst e
      rw [br_yes] at h
      cases k with
      | zero => rfl
      | succ k => rw [List.getElem?_cons_succ]; exact br_in (by omega)
    · rw [br_no l e] at h; omega
theorem br_end : ∀ {l : List UInt8}, l[br l]? ≠ some 91
  | [] => by simp
  | x :: l => by
    by_cases e : x = 91
    · subst e
      rw [br_yes, List.getElem?_cons_succ]
      exact br_end
    · rw [br_no l e]
      simpa using e
/-- The class's name in what stands for it in an array's name. -/
def wn : List UInt8 → Option (List UInt8)
  | 76 :: q => if q.getLast? = some 59 ∧ q.dropLast ≠ [] ∧ br q.dropLast = 0 then some q.dropLast else none
  | _ => none
theorem wn_some {r q : List UInt8} : wn r = some q ↔ r = 76 :: (q ++ [59]) ∧ q ≠ [] ∧ br q = 0 := by
  constructor
  · intro h
    unfold wn at h
    split at h
    · rename_i p
      split at h
      · rename_i hp
        obtain rfl := Option.some.inj h
        refine ⟨?_, hp.2.1, hp.2.2⟩
        have hne : p ≠ [] := by rintro rfl; simp at hp
        have h2 := List.dropLast_concat_getLast hne
        rw [List.getLast?_eq_some_getLast hne] at hp
        rw [Option.some.inj hp.1] at h2
        rw [h2]
      · cases h
    · cases h
  · rintro ⟨rfl, h1, h2⟩
    unfold wn
    simp [h1, h2]
/-- A type. -/
structure T where
  k : Int
  n : ByteArray
/-- What stands in an array. -/
def elL : List UInt8 → Option T
  | 91 :: r => if r = [73] then some ⟨1, mk []⟩ else if r = [74] then some ⟨2, mk []⟩ else if 0 < br r then some ⟨4, mk r⟩ else (wn r).map (fun q => ⟨4, mk q⟩)
  | _ => none
def el (t : T) : Option T := if t.k = 4 then elL (bl t.n) else none
def top : T := ⟨0, mk []⟩
def elP (t : T) : T := (el t).getD top
/-- Arrays of a type. -/
def ar (t : T) : Option T :=
  if t.k = 1 then some ⟨4, mk [91, 73]⟩ else if t.k = 2 then some ⟨4, mk [91, 74]⟩ else if t.k ≠ 4 then none else
  if bl t.n = [] then none else if br (bl t.n) = 0 then some ⟨4, mk (91 :: 76 :: (bl t.n ++ [59]))⟩ else if br (bl t.n) < 16 then some ⟨4, mk (91 :: bl t.n)⟩ else none
def arP (t : T) : T := (ar t).getD top
def tx (t : T) : ByteArray := if t.k = 0 then mk [116, 111, 112] else if t.k = 1 then mk [105, 110, 116] else if t.k = 2 then mk [108, 111, 110, 103] else if t.k = 3 then mk [110, 117, 108, 108] else if t.k = 4 then t.n else mk [63]
/-- Whether a name is an array's, and of a class that is there, if of one. -/
def arr (I : ByteArray → Option Nat) (l : List UInt8) : Bool :=
  if br l = 0 ∨ 16 < br l then false else
  if l.drop (br l) = [73] ∨ l.drop (br l) = [74] then true else match wn (l.drop (br l)) with | some q => (I (mk q)).isSome | none => false
def val (I : ByteArray → Option Nat) (t : T) : Bool :=
  if t.k = 0 ∨ t.k = 1 ∨ t.k = 2 ∨ t.k = 3 then decide (t.n = mk []) else if t.k = 4 then (I t.n).isSome || arr I (bl t.n) else false
theorem el_size {t u : T} (h : el t = some u) (hu : u.k = 4) : u.n.size < t.n.size := by
  unfold el at h
  split at h
  · obtain ⟨l, hl⟩ : ∃ l, bl t.n = l := ⟨_, rfl⟩
    rw [← bl_len t.n, hl]
    rw [hl] at h
    unfold elL at h
    split at h
    · rename_i r
      split at h
      · obtain rfl := Option.some.inj h; cases hu
      · split at h
        · obtain rfl := Option.some.inj h; cases hu
        · split at h
          · obtain rfl := Option.some.inj h
            show (mk r).size < _
            rw [mk_size, List.length_cons]; omega
          · cases hw : wn r with
            | none => rw [hw] at h; cases h
            | some q =>
              rw [hw] at h
              obtain rfl := Option.some.inj h
              obtain ⟨rfl, -, -⟩ := wn_some.1 hw
              show (mk q).size < _
              rw [mk_size]; simp; omega
    · cases h
  · cases h
end Ty
end Go.Proofs.YtahjnaoabfkpcaaDoor
namespace Go.Proofs.YtahjnaoabfkpcaaDoor.Kit
open Go Go.RowKit

/-- A slice value of n elements, 'size' cells each, that reads as these cells. -/
def IsS (size : Nat) (w : World) (v : Value) (n : Nat) (xs : List Value) : Prop :=
  xs.length = n * size ∧ n ≤ 140737488355328 ∧ ((n = 0 ∧ ∃ a cap, v = .slice a 0 cap) ∨ (∃ b o cap, v = .slice (some ⟨b, o, none⟩) n cap ∧ n ≤ cap ∧ b < w.heap.size ∧ ∀ i u, xs[i]? = some u → w.cell? ⟨b, o + i, none⟩ = some u))
theorem IsS.below {size : Nat} {w w' : World} {v : Value} {n : Nat} {xs : List Value} (h : IsS size w v n xs) {B : Nat} (hb : Below B w w') (hB : w.heap.size ≤ B) : IsS size w' v n xs := by
  refine ⟨h.1, h.2.1, ?_⟩
  rcases h.2.2 with h | ⟨b, o, cap, hv, hl, hlt, hc⟩
  · exact .inl h
  · exact .inr ⟨b, o, cap, hv, hl, Nat.lt_of_lt_of_le hlt hb.size, fun i u hi => (hb.cell (p := ⟨b, o + i, none⟩) (by simp; omega)).trans (hc i u hi)⟩
theorem IsS.len {size : Nat} {w : World} {v : Value} {n : Nat} {xs : List Value} (h : IsS size w v n xs) : ∃ a cap, v = .slice a n cap := by
  rcases h.2.2 with ⟨rfl, a, cap, rfl⟩ | ⟨b, o, cap, rfl, -⟩
  · exact ⟨a, cap, rfl⟩
  · exact ⟨_, cap, rfl⟩
/-- What a slice with an element is. -/
theorem IsS.some {size : Nat} {w : World} {v : Value} {n : Nat} {xs : List Value} (h : IsS size w v n xs) (hn : 0 < n) :
    ∃ b o cap, v = .slice (Option.some ⟨b, o, none⟩) n cap ∧ n ≤ cap ∧ b < w.heap.size ∧ ∀ i u, xs[i]? = Option.some u → w.cell? ⟨b, o + i, none⟩ = Option.some u := by
  rcases h.2.2 with ⟨rfl, _⟩ | h
  · omega
  · exact h
/-- Out of a row of the call's own. -/
theorem isS_of_owns {w : World} {base : Nat} {e : TypeId} {size : Nat} {v : Value} {n : Nat} {xs : List Value} (h : w.ownsRow base e size v n xs) (hn : n ≤ 140737488355328) : IsS size w v n xs := by
  obtain ⟨hl, h⟩ := h
  refine ⟨hl, hn, ?_⟩
  rcases h with ⟨rfl, rfl⟩ | ⟨g, cap, cur, rfl, hg, hh, hc1, hc2, hc3, ht⟩
  · exact .inl ⟨rfl, none, 0, rfl⟩
  · refine .inr ⟨g, 0, cap, rfl, hc1, ?_, fun i u hi => ?_⟩
    · rw [Array.getElem?_eq_some_iff] at hh; exact hh.1
    · have hlt : i < xs.length := by rw [List.getElem?_eq_some_iff] at hi; exact hi.1
      have : cur[i]? = Option.some u := by
        rw [← ht, List.getElem?_take_of_lt (by omega)] at hi
        simpa using hi
      simp [World.cell?, hh, this]
theorem below_grown {B : Nat} {a w w' : World} {v : Value} (h : Below B a w) (hg : w.grownBy w' v.ownBlock) (hB : B ≤ w.heap.size) (hr : ∀ k, v.ownBlock = some k → B ≤ k) : Below B a w' := h.grown hg hB hr
theorem own_base {w : World} {base : Nat} {e : TypeId} {size : Nat} {v : Value} {n : Nat} {xs : List Value} (h : w.ownsRow base e size v n xs) : ∀ k, v.ownBlock = some k → base ≤ k := by
  intro k hk
  rcases h.2 with ⟨rfl, -⟩ | ⟨g, cap, cur, rfl, hg, -⟩
  · simp [Value.ownBlock] at hk
  · simp [Value.ownBlock] at hk; omega
/-- An owned row in a world in which its block has not turned. -/
theorem owns_below {w w' : World} {base B : Nat} {e : TypeId} {size : Nat} {v : Value} {n : Nat} {xs : List Value} (h : w.ownsRow base e size v n xs) (hb : Below B w w') (hB : w.heap.size ≤ B) : w'.ownsRow base e size v n xs := by
  obtain ⟨h1, h2⟩ := h
  refine ⟨h1, ?_⟩
  rcases h2 with h2 | ⟨g, cap, cur, hv, hg, hh, r⟩
  · exact .inl h2
  · refine .inr ⟨g, cap, cur, hv, hg, ?_, r⟩
    rw [hb.block g (by rw [Array.getElem?_eq_some_iff] at hh; have := hh.1; omega)]
    exact hh
/-- A place in a list laid flat. -/
theorem flat_at {α : Type} {f : α → List Value} {s : Nat} (hf : ∀ x, (f x).length = s) : ∀ {l : List α} {k : Nat} {x : α}, l[k]? = some x → ∀ j, j < s → (l.flatMap f)[k * s + j]? = (f x)[j]?
  | [], _, _, h, _, _ => by simp at h
  | a :: l, 0, x, h, j, hj => by
    simp only [List.getElem?_cons_zero, Option.some.injEq] at h
    subst h
    rw [List.flatMap_cons, List.getElem?_append_left (by rw [hf]; omega)]
    simp
  | a :: l, k + 1, x, h, j, hj => by
    rw [List.flatMap_cons, List.getElem?_append_right (by rw [hf, Nat.add_mul]; omega), hf]
    rw [show (k + 1) * s + j - s = k * s + j by rw [Nat.add_mul]; omega]
    exact flat_at hf (by simpa using h) j hj
theorem flat_len {α : Type} {f : α → List Value} {s : Nat} (hf : ∀ x, (f x).length = s) : ∀ l : List α, (l.flatMap f).length = l.length * s
  | [] => by simp
  | a :: l => by rw [List.flatMap_cons, List.length_append, hf, flat_len hf l, List.length_cons, Nat.add_mul]; omega
/-- One new cell, as an append's source. -/
theorem news_one (w : World) (x : Value) (t : TypeId) : ∀ j u, [x][j]? = some u → (w.alloc (.cells #[x] t)).cell? ((⟨w.heap.size, 0, none⟩ : Addr).add j) = some u := by
  intro j u h
  match j, h with
  | 0, h =>
    simp only [List.getElem?_cons_zero, Option.some.injEq] at h
    subst h
    show (w.alloc (.cells #[x] t)).cell? ⟨w.heap.size, 0, none⟩ = some x
    rw [World.cell?_alloc_new]; rfl
  | j + 1, h => simp at h
theorem ones_one {x : Value} (h : x.oneCell' = true) : ∀ u ∈ [x], u.oneCell' = true := by
  intro u hu
  simp only [List.mem_singleton] at hu
  subst hu; exact h
/-- Numbers as cells. -/
def natVals (ns : List Nat) : List Value := ns.map fun n : Nat => .int .i64 (n : Int)
theorem natVals_snoc (ns : List Nat) (n : Nat) : natVals (ns ++ [n]) = natVals ns ++ [.int .i64 (n : Int)] := by unfold natVals; simp
theorem natVals_at {ns : List Nat} {k n : Nat} (h : ns[k]? = some n) : (natVals ns)[k]? = some (.int .i64 (n : Int)) := by unfold natVals; simp [h]
end Go.Proofs.YtahjnaoabfkpcaaDoor.Kit
namespace Go.Proofs.YtahjnaoabfkpcaaDoor.Kit
open Go Go.RowKit

theorem own_lt {w : World} {base : Nat} {e : TypeId} {size : Nat} {v : Value} {n : Nat} {xs : List Value} (h : w.ownsRow base e size v n xs) : ∀ k, v.ownBlock = some k → k < w.heap.size := by
  intro k hk
  rcases h.2 with ⟨rfl, -⟩ | ⟨g, cap, cur, rfl, hg, hh, -⟩
  · simp [Value.ownBlock] at hk
  · simp only [Value.ownBlock, Option.some.injEq] at hk
    subst hk
    rw [Array.getElem?_eq_some_iff] at hh
    exact hh.1
/-- From w to w' only the row of v may have been written; the new value's row is that one, or a new one. -/
structure Grows (w w' : World) (v v' : Value) : Prop where
  grown : w.grownBy w' v.ownBlock
  blk : v'.ownBlock = v.ownBlock ∨ ∃ k, w.heap.size ≤ k ∧ v'.ownBlock = some k
theorem Grows.refl (w : World) (v : Value) : Grows w w v v := ⟨⟨rfl, rfl, rfl, Nat.le_refl _, fun _ _ _ => rfl⟩, .inl rfl⟩
theorem Grows.trans {a b c : World} {u v x : Value} (h : Grows a b u v) (k : Grows b c v x) : Grows a c u x := by
  refine ⟨⟨k.grown.os.trans h.grown.os, k.grown.tape.trans h.grown.tape, k.grown.output.trans h.grown.output, Nat.le_trans h.grown.size k.grown.size, fun i hi hne => ?_⟩, ?_⟩
  · have h2 : some i ≠ v.ownBlock := by
      rcases h.blk with e | ⟨j, hj, e⟩
      · rw [e]; exact hne
      · rw [e]; intro e2; have := Option.some.inj e2; omega
    exact (k.grown.block i (Nat.lt_of_lt_of_le hi h.grown.size) h2).trans (h.grown.block i hi hne)
  · rcases k.blk with e | ⟨j, hj, e⟩
    · rw [e]; exact h.blk
    · exact .inr ⟨j, Nat.le_trans h.grown.size hj, e⟩
theorem Grows.below {a b c : World} {u v : Value} (h : Grows a b u v) (k : Below b.heap.size b c) : Grows a c u v :=
  ⟨⟨k.os.trans h.grown.os, k.tape.trans h.grown.tape, k.output.trans h.grown.output, Nat.le_trans h.grown.size k.size, fun i hi hne => (k.block i (Nat.lt_of_lt_of_le hi h.grown.size)).trans (h.grown.block i hi hne)⟩, h.blk⟩
/-- A cell of a block that is not the row's. -/
theorem Grows.cell {w w' : World} {v v' : Value} (h : Grows w w' v v') {b : Nat} (hb : b < w.heap.size) (hne : ∀ k, v.ownBlock = some k → k ≠ b) (o : Nat) : w'.cell? ⟨b, o, none⟩ = w.cell? ⟨b, o, none⟩ :=
  World.cell?_of_block (h.grown.block b hb (fun e => hne b e.symm rfl))
theorem Grows.frozen {w w' : World} {v v' : Value} (h : Grows w w' v v') {b : Nat} (hb : b < w.heap.size) (hne : ∀ k, v.ownBlock = some k → k ≠ b) (o : Nat) : w'.frozen? ⟨b, o, none⟩ = w.frozen? ⟨b, o, none⟩ :=
  World.frozen?_of_block (h.grown.block b hb (fun e => hne b e.symm rfl))
theorem Grows.to_below {B : Nat} {a w w' : World} {v v' : Value} (h : Grows w w' v v') (hb : Below B a w) (hB : B ≤ w.heap.size) (hv : ∀ k, v.ownBlock = some k → B ≤ k) : Below B a w' := hb.grown h.grown hB hv
theorem Grows.size {w w' : World} {v v' : Value} (h : Grows w w' v v') : w.heap.size ≤ w'.heap.size := h.grown.size
end Go.Proofs.YtahjnaoabfkpcaaDoor.Kit
namespace Go.Proofs.YtahjnaoabfkpcaaDoor.Kit
open Go Go.RowKit

theorem step_call1 {P : Program} {ops : Array Oper} {o : Oper} {a : Act} {w : World} {K : Act → World → Prop} {Q : Exit → Act → World → Prop} {E : Prop}
    (hg : o.guard = none) (f : FuncId) (x : Operand) (t : TypeId) (hop : o.op = Op.call { callee := Callee.value (.func f), args := #[x], argTypes := #[t] }) (v : Value) (hx : a.eval x = v) (hcf : (callFunc f #[v]).run P w = .ok (.enter f #[v]) w)
    (R : Ending → World → Prop) (hC : Calls P f #[v] w R) (hR : ∀ e w', R e w' → ∃ u, e = .returned u ∧ K (a.put o.dst u) w') :
    if Region.wanted o (yielded ops a.tmps) = true then Oper.wp P o a w K Q else E := by
  have hw : Region.wanted o (yielded ops a.tmps) = true := by simp [Region.wanted, hg]
  rw [if_pos hw]
  have hrun : (execOp a.eval o).run P w = .ok (.enter f #[v]) w := by
    cases o
    simp only at hop
    subst hop hx
    rw [execOp_call_go]
    simpa using hcf
  unfold Oper.wp
  rw [hrun]
  show Calls P f #[v] w _
  refine hC.mono ?_
  intro e w' h
  obtain ⟨u, rfl, hk⟩ := hR e w' h
  exact hk
theorem step_call2 {P : Program} {ops : Array Oper} {o : Oper} {a : Act} {w : World} {K : Act → World → Prop} {Q : Exit → Act → World → Prop} {E : Prop}
    (hg : o.guard = none) (f : FuncId) (x y : Operand) (t t' : TypeId) (hop : o.op = Op.call { callee := Callee.value (.func f), args := #[x, y], argTypes := #[t, t'] }) (v v' : Value) (hx : a.eval x = v) (hy : a.eval y = v') (hcf : (callFunc f #[v, v']).run P w = .ok (.enter f #[v, v']) w)
    (R : Ending → World → Prop) (hC : Calls P f #[v, v'] w R) (hR : ∀ e w', R e w' → ∃ u, e = .returned u ∧ K (a.put o.dst u) w') :
    if Region.wanted o (yielded ops a.tmps) = true then Oper.wp P o a w K Q else E := by
  have hw : Region.wanted o (yielded ops a.tmps) = true := by simp [Region.wanted, hg]
  rw [if_pos hw]
  have hrun : (execOp a.eval o).run P w = .ok (.enter f #[v, v']) w := by
    cases o
    simp only at hop
    subst hop hx hy
    rw [execOp_call_go]
    simpa using hcf
  unfold Oper.wp
  rw [hrun]
  show Calls P f #[v, v'] w _
  refine hC.mono ?_
  intro e w' h
  obtain ⟨u, rfl, hk⟩ := hR e w' h
  exact hk
theorem step_append_own {P : Program} {ops : Array Oper} {o : Oper} {a : Act} {w : World} {K : Act → World → Prop} {Q : Exit → Act → World → Prop} {E : Prop}
    (hg : o.guard = none) (s x : Operand) (t : TypeId) (hop : o.op = Op.call { callee := Callee.builtin Builtin.append, args := #[s, x], argTypes := #[t, t] })
    (base : Nat) (e : TypeId) (i : TypeInfo) (z : Value) (size bytes : Nat) (ht : P.underlying t = some (.slice e)) (hi : P.info? e = some i) (hz : i.zero = some z)
    (hsize : i.size = size) (hby : i.bytes = bytes) (hzs : z.cells.size = size) (hsz : 0 < size)
    (v : Value) (n : Nat) (xs : List Value) (hs : a.eval s = v) (hown : w.ownsRow base e size v n xs)
    (ad : Addr) (m c : Nat) (news : List Value) (hx : a.eval x = .slice (some ad) m c) (hl : news.length = m * size) (hnews : ∀ j u, news[j]? = some u → w.cell? (ad.add j) = some u) (h1 : ∀ u ∈ news, u.oneCell' = true)
    (h63 : n + m ≤ maxLen) (hbytes : (n + m) * bytes ≤ 140737488355328) (hbase : base ≤ w.heap.size)
    (hK : ∀ v' w', w'.ownsRow base e size v' (n + m) (xs ++ news) → w.grownBy w' v.ownBlock → (v'.ownBlock = v.ownBlock ∨ v'.ownBlock = some w.heap.size) → K (a.put o.dst v') w') :
    if Region.wanted o (yielded ops a.tmps) = true then Oper.wp P o a w K Q else E := by
  have hw : Region.wanted o (yielded ops a.tmps) = true := by simp [Region.wanted, hg]
  rw [if_pos hw]
  obtain ⟨v', w', hr, h2, h3, -, h5⟩ := run_append_own_at (P := P) w base t o.type e i z size bytes ht hi hz hsize hby hzs hsz v n xs hown ad m c news hl hnews h1 h63 hbytes hbase
  unfold Oper.wp execOp
  simp only [hop, resolve, invoke, builtin, Sem.run_bind, Sem.run_pure, Result.andThen_ok, List.map_toArray, List.map_cons, List.map_nil, hs, hx, hr]
  exact hK _ _ h2 h3 h5
end Go.Proofs.YtahjnaoabfkpcaaDoor.Kit
namespace Go.Proofs.YtahjnaoabfkpcaaDoor.Hi

/-! ### Names -/
/-- The place of a name. -/
def idx (s : ByteArray) : List ByteArray → Option Nat
  | [] => none
  | x :: xs => if x = s then some 0 else (idx s xs).map (· + 1)
theorem idx_some {s : ByteArray} : ∀ {N : List ByteArray} {k : Nat}, idx s N = some k → N[k]? = some s
  | [], k, h => by simp [idx] at h
  | x :: xs, k, h => by
    unfold idx at h
    by_cases e : x = s
    · rw [if_pos e] at h; cases h; simp [e]
    · rw [if_neg e] at h
      cases hx : idx s xs with
      | none => simp [hx] at h
      | some j =>
        simp only [hx, Option.map_some, Option.some.injEq] at h
        subst h
        simpa using idx_some hx
theorem idx_none {s : ByteArray} : ∀ {N : List ByteArray}, idx s N = none ↔ s ∉ N
  | [] => by simp [idx]
  | x :: xs => by
    unfold idx
    by_cases e : x = s
    · rw [if_pos e]; simp [e]
    · rw [if_neg e, Option.map_eq_none_iff, idx_none, List.mem_cons]
      constructor
      · rintro h (h2 | h2)
        · exact e h2.symm
        · exact h h2
      · exact fun h h2 => h (.inr h2)
theorem idx_lt {s : ByteArray} {N : List ByteArray} {k : Nat} (h : idx s N = some k) : k < N.length := (List.getElem?_eq_some_iff.1 (idx_some h)).1
theorem idx_append {s : ByteArray} {M : List ByteArray} : ∀ {N : List ByteArray}, idx s (N ++ M) = match idx s N with | some k => some k | none => (idx s M).map (· + N.length)
  | [] => by simp [idx]
  | x :: xs => by
    have e1 : idx s (x :: xs ++ M) = if x = s then some 0 else (idx s (xs ++ M)).map (· + 1) := rfl
    have e2 : idx s (x :: xs) = if x = s then some 0 else (idx s xs).map (· + 1) := rfl
    rw [e1, e2]
    by_cases e : x = s
    · rw [if_pos e, if_pos e]
    · rw [if_neg e, if_neg e, idx_append]
      cases idx s xs with
      | some k => rfl
      | none => cases idx s M <;> simp [Nat.add_assoc]
theorem idx_snoc (s t : ByteArray) (N : List ByteArray) : idx s (N ++ [t]) = match idx s N with | some k => some k | none => if t = s then some N.length else none := by
  rw [idx_append]
  cases idx s N with
  | some k => rfl
  | none => by_cases e : t = s <;> simp [idx, e]
theorem nodup_snoc {α : Type} {N : List α} {t : α} : (N ++ [t]).Nodup ↔ N.Nodup ∧ t ∉ N := by
  rw [List.nodup_append]
  constructor
  · rintro ⟨h1, -, h2⟩
    exact ⟨h1, fun h => h2 t h t (by simp) rfl⟩
  · rintro ⟨h1, h2⟩
    exact ⟨h1, by simp, fun a ha b hb => by simp only [List.mem_singleton] at hb; subst hb; rintro rfl; exact h2 ha⟩

/-! ### How many -/
theorem len_le : ∀ (n : Nat) (l : List Nat), l.Nodup → (∀ x ∈ l, x < n) → l.length ≤ n
  | 0, l, _, h => by
    cases l with
    | nil => simp
    | cons a l => exact absurd (h a (by simp)) (by omega)
  | n + 1, l, hn, h => by
    have h1 : (l.erase n).Nodup := hn.erase n
    have h2 := len_le n (l.erase n) h1 (fun x hx => by
      have h3 := (hn.mem_erase_iff).1 hx
      have := h x h3.2
      have := h3.1
      omega)
    have h3 := List.length_erase (a := n) (l := l)
    split at h3 <;> omega
theorem le_len : ∀ (n : Nat) (l : List Nat), l.Nodup → (∀ x, x < n → x ∈ l) → n ≤ l.length
  | 0, l, _, _ => by omega
  | n + 1, l, hn, h => by
    have h1 : (l.erase n).Nodup := hn.erase n
    have h2 := le_len n (l.erase n) h1 (fun x hx => (hn.mem_erase_iff).2 ⟨by omega, h x (by omega)⟩)
    have h3 := List.length_erase_of_mem (h n (by omega))
    have h4 : 0 < l.length := List.length_pos_of_mem (h n (by omega))
    omega
theorem all_in {n : Nat} {l : List Nat} (hn : l.Nodup) (h : ∀ x ∈ l, x < n) (hl : l.length = n) : ∀ x, x < n → x ∈ l := by
  intro x hx
  apply Classical.byContradiction
  intro hc
  have h1 := len_le n (x :: l) (List.nodup_cons.2 ⟨hc, hn⟩) (fun y hy => by
    rcases List.mem_cons.1 hy with rfl | hy
    · exact hx
    · exact h y hy)
  simp only [List.length_cons] at h1
  omega

/-! ### Depths -/
/-- A hierarchy of n classes: P is each one's super (that of 0 is not looked at), D its depth. -/
structure Tr (n : Nat) (P D : Nat → Nat) : Prop where
  pos : 1 ≤ n
  up : ∀ k, 1 ≤ k → k < n → P k < n
  zero : D 0 = 0
  dep : ∀ k, 1 ≤ k → k < n → D k = D (P k) + 1
theorem Tr.root {n : Nat} {P D : Nat → Nat} (h : Tr n P D) {k : Nat} (hk : k < n) (h0 : D k = 0) : k = 0 := by
  apply Classical.byContradiction
  intro hc
  have := h.dep k (by omega) hk
  omega
/-- Depths are what they are. -/
theorem Tr.one {n : Nat} {P D D' : Nat → Nat} (h : Tr n P D) (h' : Tr n P D') : ∀ (d k : Nat), k < n → D k = d → D' k = d
  | 0, k, hk, hd => by rw [h.root hk hd]; exact h'.zero
  | d + 1, k, hk, hd => by
    have h1 : 1 ≤ k := by
      rcases Nat.eq_zero_or_pos k with rfl | h1
      · have := h.zero; omega
      · exact h1
    rw [h'.dep k h1 hk, h.one h' d (P k) (h.up k h1 hk) (by have := h.dep k h1 hk; omega)]
/-- j steps up. -/
def upn (P : Nat → Nat) : Nat → Nat → Nat
  | 0, k => k
  | j + 1, k => upn P j (P k)
theorem upn_add (P : Nat → Nat) (i : Nat) : ∀ j k, upn P i (upn P j k) = upn P (j + i) k
  | 0, k => by simp [upn]
  | j + 1, k => by rw [Nat.succ_add]; exact upn_add P i j (P k)
theorem Tr.upn_dep {n : Nat} {P D : Nat → Nat} (h : Tr n P D) : ∀ j k, k < n → j ≤ D k → upn P j k < n ∧ D (upn P j k) = D k - j
  | 0, k, hk, _ => ⟨hk, rfl⟩
  | j + 1, k, hk, hj => by
    have h1 : 1 ≤ k := by
      rcases Nat.eq_zero_or_pos k with rfl | h1
      · have := h.zero; omega
      · exact h1
    have h2 := h.dep k h1 hk
    have h3 := h.upn_dep j (P k) (h.up k h1 hk) (by omega)
    exact ⟨h3.1, by rw [show upn P (j + 1) k = upn P j (P k) from rfl, h3.2]; omega⟩
/-- The classes on the way up. -/
theorem Tr.chain {n : Nat} {P D : Nat → Nat} (h : Tr n P D) : ∀ (d k : Nat), k < n → D k = d → ∃ L : List Nat, L.Nodup ∧ (∀ x ∈ L, x < n ∧ D x ≤ d) ∧ L.length = d + 1
  | 0, k, hk, hd => ⟨[k], by simp, by simp [hk, hd], rfl⟩
  | d + 1, k, hk, hd => by
    have h1 : 1 ≤ k := by
      rcases Nat.eq_zero_or_pos k with rfl | h1
      · have := h.zero; omega
      · exact h1
    obtain ⟨L, a, b, c⟩ := h.chain d (P k) (h.up k h1 hk) (by have := h.dep k h1 hk; omega)
    refine ⟨k :: L, List.nodup_cons.2 ⟨fun hx => ?_, a⟩, fun x hx => ?_, by simp [c]⟩
    · have := (b k hx).2; omega
    · rcases List.mem_cons.1 hx with rfl | hx
      · exact ⟨hk, by omega⟩
      · exact ⟨(b x hx).1, by have := (b x hx).2; omega⟩
theorem Tr.lt {n : Nat} {P D : Nat → Nat} (h : Tr n P D) {k : Nat} (hk : k < n) : D k < n := by
  obtain ⟨L, a, b, c⟩ := h.chain (D k) k hk rfl
  have := len_le n L a (fun x hx => (b x hx).1)
  omega

/-! ### Under -/
/-- b is a, or stands above it. -/
def und (P D : Nat → Nat) (a b : Nat) : Bool := decide (upn P (D a - D b) a = b)
section
variable {n : Nat} {P D : Nat → Nat}
theorem und_refl (P D : Nat → Nat) (a : Nat) : und P D a a = true := by simp [und, upn]
theorem Tr.und_le (h : Tr n P D) {a b : Nat} (ha : a < n) (hu : und P D a b = true) : D b ≤ D a := by
  unfold und at hu
  rw [decide_eq_true_iff] at hu
  have := (h.upn_dep (D a - D b) a ha (by omega)).2
  rw [hu] at this
  omega
theorem Tr.und_iff (h : Tr n P D) {a b : Nat} (ha : a < n) : und P D a b = true ↔ ∃ j, j ≤ D a ∧ upn P j a = b := by
  constructor
  · intro hu
    refine ⟨D a - D b, by omega, ?_⟩
    unfold und at hu
    exact decide_eq_true_iff.1 hu
  · rintro ⟨j, hj, rfl⟩
    unfold und
    rw [decide_eq_true_iff, (h.upn_dep j a ha hj).2]
    congr 1
    omega
theorem Tr.und_trans (h : Tr n P D) {a b c : Nat} (ha : a < n) (h1 : und P D a b = true) (h2 : und P D b c = true) : und P D a c = true := by
  obtain ⟨i, hi, rfl⟩ := (h.und_iff ha).1 h1
  obtain ⟨hb, hd⟩ := h.upn_dep i a ha hi
  obtain ⟨j, hj, rfl⟩ := (h.und_iff hb).1 h2
  exact (h.und_iff ha).2 ⟨i + j, by omega, by rw [upn_add]⟩
/-- One step: of a class that is not the topmost one. -/
theorem Tr.und_step (h : Tr n P D) {a b : Nat} (ha : a < n) (h1 : 1 ≤ a) : und P D a b = (decide (a = b) || und P D (P a) b) := by
  have hd := h.dep a h1 ha
  by_cases e : a = b
  · subst e; simp [und_refl]
  · rw [decide_eq_false e, Bool.false_or]
    unfold und
    by_cases hb : D b < D a
    · rw [show D a - D b = (D (P a) - D b) + 1 by omega]
      rfl
    · rw [show D a - D b = 0 by omega, show D (P a) - D b = 0 by omega]
      show decide (a = b) = decide (P a = b)
      rw [decide_eq_false e, decide_eq_false]
      intro e2
      rw [e2] at hd
      omega
/-! ### In common -/
/-- Both go up at once. -/
def com (P : Nat → Nat) : Nat → Nat → Nat → Nat
  | 0, a, _ => a
  | f + 1, a, b => if a = b then a else com P f (P a) (P b)
/-- The deepest that is, or stands above, both. -/
def cm (P D : Nat → Nat) (a b : Nat) : Nat := com P (min (D a) (D b)) (upn P (D a - D b) a) (upn P (D b - D a) b)
theorem com_self (P : Nat → Nat) (f a : Nat) : com P f a a = a := by cases f <;> simp [com]
theorem Tr.com_ok (h : Tr n P D) : ∀ (f a b : Nat), a < n → b < n → D a = f → D b = f →
    und P D a (com P f a b) = true ∧ und P D b (com P f a b) = true ∧ com P f a b < n ∧ ∀ k, und P D a k = true → und P D b k = true → und P D (com P f a b) k = true
  | 0, a, b, ha, hb, h1, h2 => by
    have e1 := h.root ha h1
    have e2 := h.root hb h2
    subst e1 e2
    exact ⟨und_refl _ _ _, und_refl _ _ _, ha, fun k hk _ => hk⟩
  | f + 1, a, b, ha, hb, h1, h2 => by
    unfold com
    by_cases e : a = b
    · subst e
      rw [if_pos rfl]
      exact ⟨und_refl _ _ _, und_refl _ _ _, ha, fun k hk _ => hk⟩
    · rw [if_neg e]
      have a1 : 1 ≤ a := by
        rcases Nat.eq_zero_or_pos a with rfl | h1
        · have := h.zero; omega
        · exact h1
      have b1 : 1 ≤ b := by
        rcases Nat.eq_zero_or_pos b with rfl | h1
        · have := h.zero; omega
        · exact h1
      obtain ⟨c1, c2, c3, c4⟩ := h.com_ok f (P a) (P b) (h.up a a1 ha) (h.up b b1 hb) (by have := h.dep a a1 ha; omega) (by have := h.dep b b1 hb; omega)
      refine ⟨by rw [h.und_step ha a1, c1, Bool.or_true], by rw [h.und_step hb b1, c2, Bool.or_true], c3, fun k hk hk2 => ?_⟩
      have hne : a ≠ k ∨ b ≠ k := by
        by_cases ea : a = k
        · exact .inr fun eb => e (ea.trans eb.symm)
        · exact .inl ea
      have hlt : D k ≤ f := by
        rcases hne with hne | hne
        · rw [h.und_step ha a1, decide_eq_false hne, Bool.false_or] at hk
          have := h.und_le (h.up a a1 ha) hk
          have := h.dep a a1 ha
          omega
        · rw [h.und_step hb b1, decide_eq_false hne, Bool.false_or] at hk2
          have := h.und_le (h.up b b1 hb) hk2
          have := h.dep b b1 hb
          omega
      have ka : a ≠ k := by rintro rfl; omega
      have kb : b ≠ k := by rintro rfl; omega
      rw [h.und_step ha a1, decide_eq_false ka, Bool.false_or] at hk
      rw [h.und_step hb b1, decide_eq_false kb, Bool.false_or] at hk2
      exact c4 k hk hk2
theorem Tr.cm_ok (h : Tr n P D) {a b : Nat} (ha : a < n) (hb : b < n) :
    und P D a (cm P D a b) = true ∧ und P D b (cm P D a b) = true ∧ cm P D a b < n ∧ ∀ k, und P D a k = true → und P D b k = true → und P D (cm P D a b) k = true := by
  obtain ⟨a1, a2⟩ := h.upn_dep (D a - D b) a ha (by omega)
  obtain ⟨b1, b2⟩ := h.upn_dep (D b - D a) b hb (by omega)
  obtain ⟨c1, c2, c3, c4⟩ := h.com_ok (min (D a) (D b)) _ _ a1 b1 (by omega) (by omega)
  have ua : und P D a (upn P (D a - D b) a) = true := (h.und_iff ha).2 ⟨_, by omega, rfl⟩
  have ub : und P D b (upn P (D b - D a) b) = true := (h.und_iff hb).2 ⟨_, by omega, rfl⟩
  refine ⟨h.und_trans ha ua c1, h.und_trans hb ub c2, c3, fun k hk hk2 => ?_⟩
  have l1 := h.und_le ha hk
  have l2 := h.und_le hb hk2
  refine c4 k ?_ ?_
  · unfold und at hk ⊢
    rw [decide_eq_true_iff] at hk ⊢
    rw [upn_add, a2, show D a - D b + (D a - (D a - D b) - D k) = D a - D k by omega]
    exact hk
  · unfold und at hk2 ⊢
    rw [decide_eq_true_iff] at hk2 ⊢
    rw [upn_add, b2, show D b - D a + (D b - (D b - D a) - D k) = D b - D k by omega]
    exact hk2
end
end Go.Proofs.YtahjnaoabfkpcaaDoor.Hi
namespace Go.Proofs.YtahjnaoabfkpcaaDoor.Hi

/-- The classes right under s, among the first n. -/
def ch (n : Nat) (P : Nat → Nat) (s : Nat) : List Nat := (List.range n).filter fun j => decide (1 ≤ j) && decide (P j = s)
theorem mem_ch {n : Nat} {P : Nat → Nat} {s j : Nat} : j ∈ ch n P s ↔ 1 ≤ j ∧ j < n ∧ P j = s := by
  simp [ch, and_left_comm]
theorem ch_nodup (n : Nat) (P : Nat → Nat) (s : Nat) : (ch n P s).Nodup := List.Pairwise.filter _ List.nodup_range
theorem ch_len (n : Nat) (P : Nat → Nat) (s : Nat) : (ch n P s).length ≤ n := by
  have := List.length_filter_le (fun j => decide (1 ≤ j) && decide (P j = s)) (List.range n)
  rwa [List.length_range] at this
theorem ch_snoc (n : Nat) (P : Nat → Nat) (s : Nat) : ch (n + 1) P s = if 1 ≤ n ∧ P n = s then ch n P s ++ [n] else ch n P s := by
  unfold ch
  rw [List.range_succ, List.filter_append]
  by_cases h : 1 ≤ n ∧ P n = s
  · rw [if_pos h, List.filter_cons_of_pos (by simp [h.1, h.2])]; rfl
  · rw [if_neg h, List.filter_cons_of_neg (by simpa using h)]; simp
theorem ch_zero (P : Nat → Nat) (s : Nat) : ch 0 P s = [] := rfl
theorem ch_one (P : Nat → Nat) (s : Nat) : ch 1 P s = [] := by rw [ch_snoc, if_neg (by omega)]; rfl

/-- Going down: O is what was come to, of which the first i are behind; d are the depths so far. -/
structure Bf (n : Nat) (P : Nat → Nat) (O : List Nat) (i : Nat) (d : Nat → Nat) : Prop where
  nd : O.Nodup
  lt : ∀ x ∈ O, x < n
  mem : ∀ x, x ∈ O ↔ x = 0 ∨ (1 ≤ x ∧ x < n ∧ P x ∈ O.take i)
  le : i ≤ O.length
  dep : ∀ x ∈ O, d x = if x = 0 then 0 else d (P x) + 1
  dle : ∀ x ∈ O, d x ≤ i
theorem Bf.start {n : Nat} {P : Nat → Nat} (hn : 1 ≤ n) : Bf n P [0] 0 (fun _ => 0) :=
  ⟨by simp, by simp; omega, by simp, by simp, by simp, by simp⟩
/-- The depths behind a step. -/
def dn (n : Nat) (P d : Nat → Nat) (x : Nat) : Nat → Nat := fun j => if 1 ≤ j ∧ j < n ∧ P j = x then d x + 1 else d j
section
variable {n i : Nat} {P d : Nat → Nat} {O : List Nat}
theorem Bf.len (h : Bf n P O i d) : O.length ≤ n := len_le n O h.nd h.lt
theorem take_in {l : List Nat} {i x : Nat} (h : x ∈ l.take i) : x ∈ l := List.mem_of_mem_take h
theorem Bf.child (h : Bf n P O i d) {x c : Nat} (hx : O[i]? = some x) (hc : c ∈ ch n P x) : c ∉ O := by
  intro hO
  obtain ⟨c1, c2, c3⟩ := mem_ch.1 hc
  rcases (h.mem c).1 hO with rfl | ⟨-, -, hp⟩
  · omega
  · rw [c3] at hp
    obtain ⟨j, hj⟩ := List.getElem?_of_mem hp
    rw [List.getElem?_take] at hj
    split at hj
    · have := (List.getElem?_inj (List.getElem?_eq_some_iff.1 hx).1 h.nd).1 (hx.trans hj.symm)
      omega
    · exact absurd hj (by simp)
theorem Bf.step (h : Bf n P O i d) {x : Nat} (hx : O[i]? = some x) : Bf n P (O ++ ch n P x) (i + 1) (dn n P d x) := by
  have hi := (List.getElem?_eq_some_iff.1 hx).1
  have hxO : x ∈ O := List.mem_of_getElem? hx
  have hno : ∀ y ∈ O, dn n P d x y = d y := fun y hy => by
    unfold dn
    rw [if_neg]
    rintro ⟨a, b, c⟩
    exact h.child hx (mem_ch.2 ⟨a, b, c⟩) hy
  have htk : (O ++ ch n P x).take (i + 1) = O.take i ++ [x] := by
    rw [List.take_append_of_le_length (by omega), List.take_add_one, hx]; rfl
  refine ⟨List.nodup_append.2 ⟨h.nd, ch_nodup _ _ _, fun a ha b hb e => by subst e; exact h.child hx hb ha⟩, fun y hy => ?_, fun y => ?_, by rw [List.length_append]; omega, fun y hy => ?_, fun y hy => ?_⟩
  · rcases List.mem_append.1 hy with hy | hy
    · exact h.lt y hy
    · exact (mem_ch.1 hy).2.1
  · rw [List.mem_append, htk, List.mem_append, h.mem y, mem_ch, List.mem_singleton]
    constructor
    · rintro ((h1 | ⟨h1, h2, h3⟩) | ⟨h1, h2, h3⟩)
      · exact .inl h1
      · exact .inr ⟨h1, h2, .inl h3⟩
      · exact .inr ⟨h1, h2, .inr h3⟩
    · rintro (h1 | ⟨h1, h2, h3 | h3⟩)
      · exact .inl (.inl h1)
      · exact .inl (.inr ⟨h1, h2, h3⟩)
      · exact .inr ⟨h1, h2, h3⟩
  · rcases List.mem_append.1 hy with hy | hy
    · rw [hno y hy, h.dep y hy]
      by_cases e : y = 0
      · rw [if_pos e, if_pos e]
      · rw [if_neg e, if_neg e]
        rcases (h.mem y).1 hy with e' | ⟨-, -, hp⟩
        · exact absurd e' e
        · rw [hno _ (take_in hp)]
    · obtain ⟨a, b, c⟩ := mem_ch.1 hy
      rw [if_neg (by omega), c, hno x hxO]
      unfold dn
      rw [if_pos ⟨a, b, c⟩]
  · rcases List.mem_append.1 hy with hy | hy
    · rw [hno y hy]; have := h.dle y hy; omega
    · obtain ⟨a, b, c⟩ := mem_ch.1 hy
      unfold dn
      rw [if_pos ⟨a, b, c⟩]
      have := h.dle x hxO
      omega
/-- At the end: all were come to, just where there are depths. -/
theorem Bf.full (h : Bf n P O O.length d) (hn : 1 ≤ n) (hP : ∀ k, 1 ≤ k → k < n → P k < n) (hl : O.length = n) : Tr n P d := by
  have hall := all_in h.nd h.lt hl
  refine ⟨hn, hP, ?_, fun k h1 hk => ?_⟩
  · have := h.dep 0 (hall 0 (by omega)); simpa using this
  · have := h.dep k (hall k hk)
    rw [if_neg (by omega)] at this
    exact this
theorem Bf.all (h : Bf n P O O.length d) {D : Nat → Nat} (t : Tr n P D) : O.length = n := by
  have hin : ∀ (e k : Nat), k < n → D k = e → k ∈ O := by
    intro e
    induction e with
    | zero =>
      intro k hk he
      rw [t.root hk he]
      exact (h.mem 0).2 (.inl rfl)
    | succ e ih =>
      intro k hk he
      have h1 : 1 ≤ k := by
        rcases Nat.eq_zero_or_pos k with rfl | h1
        · have := t.zero; omega
        · exact h1
      have := t.dep k h1 hk
      have hp := ih (P k) (t.up k h1 hk) (by omega)
      exact (h.mem k).2 (.inr ⟨h1, hk, by rw [List.take_length]; exact hp⟩)
  exact Nat.le_antisymm h.len (le_len n O h.nd fun x hx => hin _ x hx rfl)
end

/-! ### Chains that end -/
/-- From k up one comes to the topmost class with at most f classes. -/
def ends (P : Nat → Nat) : Nat → Nat → Bool
  | 0, _ => false
  | f + 1, k => decide (k = 0) || ends P f (P k)
def dpt (P : Nat → Nat) : Nat → Nat → Nat
  | 0, _ => 0
  | f + 1, k => if k = 0 then 0 else dpt P f (P k) + 1
theorem dpt_more {P : Nat → Nat} : ∀ {f : Nat} {k : Nat}, ends P f k = true → dpt P (f + 1) k = dpt P f k
  | 0, k, h => by simp [ends] at h
  | f + 1, k, h => by
    unfold ends at h
    by_cases e : k = 0
    · subst e; simp [dpt]
    · rw [decide_eq_false e, Bool.false_or] at h
      unfold dpt
      rw [if_neg e, if_neg e, dpt_more h]
theorem ends_more {P : Nat → Nat} : ∀ {f : Nat} {k : Nat}, ends P f k = true → ends P (f + 1) k = true
  | 0, k, h => by simp [ends] at h
  | f + 1, k, h => by
    unfold ends at h ⊢
    by_cases e : k = 0
    · simp [e]
    · rw [decide_eq_false e, Bool.false_or] at h ⊢
      exact ends_more h
theorem ends_le {P : Nat → Nat} {f g k : Nat} (h : ends P f k = true) (hg : f ≤ g) : ends P g k = true := by
  induction g with
  | zero => obtain rfl : f = 0 := by omega
            exact h
  | succ g ih =>
    by_cases e : f = g + 1
    · subst e; exact h
    · exact ends_more (ih (by omega))
theorem Tr.ends {n : Nat} {P D : Nat → Nat} (t : Tr n P D) {k : Nat} (hk : k < n) : ends P n k = true := by
  have : ∀ (d k : Nat), k < n → D k = d → Hi.ends P (d + 1) k = true := by
    intro d
    induction d with
    | zero => intro k hk hd; rw [t.root hk hd]; simp [Hi.ends]
    | succ d ih =>
      intro k hk hd
      have h1 : 1 ≤ k := by
        rcases Nat.eq_zero_or_pos k with rfl | h1
        · have := t.zero; omega
        · exact h1
      have := t.dep k h1 hk
      unfold Hi.ends
      rw [ih (P k) (t.up k h1 hk) (by omega), Bool.or_true]
  exact ends_le (this (D k) k hk rfl) (t.lt hk)
theorem tr_of_ends {n : Nat} {P : Nat → Nat} (hn : 1 ≤ n) (hP : ∀ k, 1 ≤ k → k < n → P k < n) (h : ∀ k, k < n → ends P n k = true) : Tr n P (dpt P n) := by
  refine ⟨hn, hP, ?_, fun k h1 hk => ?_⟩
  · cases n with
    | zero => omega
    | succ n => simp [dpt]
  · have hk2 := h k hk
    cases n with
    | zero => omega
    | succ n =>
      unfold ends at hk2
      rw [decide_eq_false (by omega), Bool.false_or] at hk2
      rw [dpt_more hk2]
      show (if k = 0 then 0 else dpt P n (P k) + 1) = _
      rw [if_neg (by omega)]

/-! ### The order -/
def lex (D : Nat → Nat) (a b : Nat) : Prop := D a < D b ∨ (D a = D b ∧ a < b)
/-- All, by depths, then by numbers. -/
def ordL (n : Nat) (D : Nat → Nat) : List Nat := (List.range (n + 1)).flatMap fun d => (List.range n).filter fun i => decide (D i = d)
theorem sorted_unique {α : Type} {R : α → α → Prop} (hi : ∀ x, ¬ R x x) (ht : ∀ x y z, R x y → R y z → R x z) : ∀ {l m : List α}, l.Pairwise R → m.Pairwise R → (∀ x, x ∈ l ↔ x ∈ m) → l = m
  | [], [], _, _, _ => rfl
  | [], b :: m, _, _, h => by have := (h b).2 (by simp); simp at this
  | a :: l, [], _, _, h => by have := (h a).1 (by simp); simp at this
  | a :: l, b :: m, h1, h2, h => by
    rw [List.pairwise_cons] at h1 h2
    have hab : a = b := by
      rcases List.mem_cons.1 ((h a).1 (by simp)) with e | e
      · exact e
      · rcases List.mem_cons.1 ((h b).2 (by simp)) with e' | e'
        · exact e'.symm
        · exact absurd (ht _ _ _ (h2.1 a e) (h1.1 b e')) (hi b)
    subst hab
    congr 1
    refine sorted_unique hi ht h1.2 h2.2 fun x => ⟨fun hx => ?_, fun hx => ?_⟩
    · rcases List.mem_cons.1 ((h x).1 (List.mem_cons_of_mem _ hx)) with e | e
      · subst e; exact absurd (h1.1 x hx) (hi x)
      · exact e
    · rcases List.mem_cons.1 ((h x).2 (List.mem_cons_of_mem _ hx)) with e | e
      · subst e; exact absurd (h2.1 x hx) (hi x)
      · exact e
theorem ordL_sorted (n : Nat) (D : Nat → Nat) : (ordL n D).Pairwise (lex D) := by
  unfold ordL
  rw [List.pairwise_flatMap]
  refine ⟨fun d _ => ?_, ?_⟩
  · refine (List.pairwise_lt_range.filter _).imp_of_mem fun {a b} ha hb hab => ?_
    have h1 := (List.mem_filter.1 ha).2
    have h2 := (List.mem_filter.1 hb).2
    rw [decide_eq_true_iff] at h1 h2
    exact .inr ⟨h1.trans h2.symm, hab⟩
  · refine List.pairwise_lt_range.imp fun {a b} hab x hx y hy => ?_
    have h1 := (List.mem_filter.1 hx).2
    have h2 := (List.mem_filter.1 hy).2
    rw [decide_eq_true_iff] at h1 h2
    exact .inl (by omega)
theorem mem_ordL {n : Nat} {P D : Nat → Nat} (t : Tr n P D) (x : Nat) : x ∈ ordL n D ↔ x < n := by
  unfold ordL
  rw [List.mem_flatMap]
  constructor
  · rintro ⟨d, -, hx⟩
    exact List.mem_range.1 (List.mem_filter.1 hx).1
  · intro hx
    exact ⟨D x, List.mem_range.2 (by have := t.lt hx; omega), List.mem_filter.2 ⟨List.mem_range.2 hx, by simp⟩⟩
theorem lex_irrefl (D : Nat → Nat) (x : Nat) : ¬ lex D x x := by unfold lex; omega
theorem lex_trans (D : Nat → Nat) (x y z : Nat) (h1 : lex D x y) (h2 : lex D y z) : lex D x z := by unfold lex at *; omega
/-- What is sorted is the order. -/
theorem ord_eq {n : Nat} {P D : Nat → Nat} (t : Tr n P D) {O : List Nat} (hs : O.Pairwise (lex D)) (hm : ∀ x, x ∈ O ↔ x < n) : O = ordL n D :=
  sorted_unique (lex_irrefl D) (lex_trans D) hs (ordL_sorted n D) fun x => (hm x).trans (mem_ordL t x).symm
end Go.Proofs.YtahjnaoabfkpcaaDoor.Hi
namespace Go.Proofs.YtahjnaoabfkpcaaDoor
open Go Go.RowKit

theorem A.zeroI (w : World) : (zeroValue 3).run Tryd.prog w = .ok (.int .i64 0) w := by kernel_rfl
theorem ba_eq {a b : ByteArray} (h : a.data.toList = b.data.toList) : a = b := by
  cases a; cases b
  simp only [ByteArray.mk.injEq]
  exact Array.toList_inj.1 h
/-- A name as a key. -/
def kl (s : ByteArray) : Lit := .string s.data.toList
theorem kl_inj {s t : ByteArray} (h : kl s = kl t) : s = t := ba_eq (Lit.string.inj h)
theorem key_of (s : ByteArray) (h : s.size ≤ maxLen) : keyOf Tryd.prog 9 (.string s) = some (kl s) := Go.WideMaps.keyOf_string_mk Tryd.underlying9 h
/-- A map that has the places of names. -/
def NmM (w : World) (mb : Nat) (N : List ByteArray) : Prop := ∃ D : DataW Unit, w.ownsMap Tryd.prog 9 (plainElem Tryd.prog 3) mb N.length D ∧
  (∀ s, Maps.has D (kl s) = (Hi.idx s N).isSome) ∧ ∀ s, D.atKey (kl s) (.lit (.int .i64 0)) = .lit (.int .i64 (((Hi.idx s N).getD 0 : Nat) : Int))
theorem NmM.new (w : World) : NmM (w.alloc (.map #[] 0)) w.heap.size [] := ⟨.map [], World.ownsMap_made w _ _ _, fun _ => rfl, fun _ => rfl⟩
theorem NmM.keep {w w' : World} {mb : Nat} {N : List ByteArray} (h : NmM w mb N) (hb : w'.heap[mb]? = w.heap[mb]?) : NmM w' mb N := by
  obtain ⟨D, ⟨es, clock, h1, h2, h3, h4⟩, hd⟩ := h
  exact ⟨D, ⟨es, clock, hb.trans h1, h2, h3, h4⟩, hd⟩
theorem NmM.is {w : World} {mb : Nat} {N : List ByteArray} (h : NmM w mb N) : ∃ es c, w.heap[mb]? = some (.map es c) := by
  obtain ⟨D, ⟨es, clock, h1, -⟩, -⟩ := h
  exact ⟨es, clock, h1⟩
theorem NmM.lt {w : World} {mb : Nat} {N : List ByteArray} (h : NmM w mb N) : mb < w.heap.size := by
  obtain ⟨es, c, h1⟩ := h.is
  exact (Array.getElem?_eq_some_iff.1 h1).1
theorem NmM.look {w : World} {mb : Nat} {N : List ByteArray} (h : NmM w mb N) (s : ByteArray) (hs : s.size ≤ maxLen) :
    (Instr.lookup 74 (.map (some mb)) (.string s) true).run Tryd.prog w = .ok (.tuple #[.int .i64 (((Hi.idx s N).getD 0 : Nat) : Int), .bool (Hi.idx s N).isSome]) w := by
  obtain ⟨D, h1, h2, h3⟩ := h
  obtain ⟨v, ps, hrun, hv⟩ := h1.look_ok (Maps.string_keyed Tryd.underlying9) Tryd.underlying74 (A.zeroI w) (plainElem_int Tryd.underlying3 (a := 0) (by decide)) (key_of s hs)
  obtain ⟨a, rfl, ha, -⟩ := plainElem_int_inv Tryd.underlying3 hv
  rw [h3 s] at ha
  simp only [Prod.mk.injEq, DataW.lit.injEq, Lit.int.injEq, true_and] at ha
  rw [hrun, h2 s, ← ha.1]
theorem NmM.put {w : World} {mb : Nat} {N : List ByteArray} (h : NmM w mb N) (t : ByteArray) (ht : t.size ≤ maxLen) (hl : N.length < 1000) (hno : Hi.idx t N = none) :
    ∃ w', (Instr.mapUpdate 74 (.map (some mb)) (.string t) (.int .i64 (N.length : Int))).run Tryd.prog w = .ok () w' ∧ NmM w' mb (N ++ [t]) ∧ w.grownBy w' (some mb) := by
  obtain ⟨D, h1, h2, h3⟩ := h
  have hwf : (Lit.int .i64 (N.length : Int)).wf = true := by
    simp [Lit.wf, IntKind.min, IntKind.max, IntKind.signed, IntKind.bits]; omega
  obtain ⟨w', hr, ho, hg⟩ := h1.update (Maps.string_keyed Tryd.underlying9) Tryd.underlying74 (by unfold maxLen; omega) (key_of t ht) (plainElem_int Tryd.underlying3 hwf)
  refine ⟨w', hr, ⟨_, by rw [List.length_append]; exact ho, fun s => ?_, fun s => ?_⟩, hg⟩
  · rw [Hi.idx_snoc]
    by_cases e : s = t
    · subst e
      rw [Maps.has_put_same h1.isMap (by trivial) _, hno]
      simp
    · rw [Maps.has_put_other (fun k => e (kl_inj k)), h2 s]
      cases Hi.idx s N with
      | some k => rfl
      | none => simp [Ne.symm e]
  · rw [Hi.idx_snoc]
    by_cases e : s = t
    · subst e
      rw [Maps.atKey_put_same h1.isMap (by trivial) _ _, hno]
      simp
    · rw [Maps.atKey_put_other (fun k => e (kl_inj k)), h3 s]
      cases Hi.idx s N with
      | some k => rfl
      | none => simp [Ne.symm e]
end Go.Proofs.YtahjnaoabfkpcaaDoor
namespace Go.Proofs.YtahjnaoabfkpcaaDoor
open Go Go.RowKit

theorem hid {p : Prop} (h : p) : Hid p := h
theorem belows {B : Nat} {a b c : World} (h : Below B a b) (k : Below b.heap.size b c) (hB : B ≤ b.heap.size) : Below B a c := h.trans (k.mono hB)
theorem belows_drewN {B : Nat} {a b : World} (h : Below B a b) (n : Nat) : Below B a (b.drewN n) := ⟨h.os, h.tape, h.output, h.size, h.block⟩
theorem below_drewN (w : World) (n : Nat) : Below w.heap.size w (w.drewN n) := ⟨rfl, rfl, rfl, Nat.le_refl _, fun _ _ => rfl⟩
/-- Of the blocks that there were, only those of S may have been written. -/
structure Chg (S : Nat → Prop) (w w' : World) : Prop where
  os : w'.os = w.os
  tape : w'.tape = w.tape
  output : w'.output = w.output
  size : w.heap.size ≤ w'.heap.size
  block : ∀ k, k < w.heap.size → ¬ S k → w'.heap[k]? = w.heap[k]?
section
variable {S T : Nat → Prop} {a b c w w' : World}
theorem Chg.refl (S : Nat → Prop) (w : World) : Chg S w w := ⟨rfl, rfl, rfl, Nat.le_refl _, fun _ _ _ => rfl⟩
theorem Chg.trans (h : Chg S a b) (k : Chg T b c) (hT : ∀ i, T i → S i ∨ a.heap.size ≤ i) : Chg S a c :=
  ⟨k.os.trans h.os, k.tape.trans h.tape, k.output.trans h.output, Nat.le_trans h.size k.size, fun i hi hs =>
    (k.block i (Nat.lt_of_lt_of_le hi h.size) (fun ht => by rcases hT i ht with h1 | h1; exact hs h1; omega)).trans (h.block i hi hs)⟩
theorem Chg.mono (h : Chg S a b) (hs : ∀ i, i < a.heap.size → S i → T i) : Chg T a b := ⟨h.os, h.tape, h.output, h.size, fun i hi ht => h.block i hi (fun e => ht (hs i hi e))⟩
theorem Chg.of_below (h : Below w.heap.size w w') : Chg S w w' := ⟨h.os, h.tape, h.output, h.size, fun k hk _ => h.block k hk⟩
theorem Chg.below (h : Chg S a b) (k : Below b.heap.size b c) : Chg S a c := h.trans (Chg.of_below (S := fun _ => False) k) (fun _ e => e.elim)
theorem Chg.of_grown {row : Option Nat} (h : w.grownBy w' row) (hr : ∀ k, row = some k → S k) : Chg S w w' :=
  ⟨h.os, h.tape, h.output, h.size, fun k hk hs => h.block k hk (fun e => hs (hr k e.symm))⟩
theorem Chg.grown {row : Option Nat} (h : Chg S a b) (k : b.grownBy c row) (hr : ∀ k, row = some k → S k ∨ a.heap.size ≤ k) : Chg S a c :=
  h.trans (Chg.of_grown (S := fun i => row = some i) k (fun _ e => e)) (fun i e => hr i e)
theorem Chg.alloc (h : Chg S a b) (o : Obj) : Chg S a (b.alloc o) := h.below ((Below.refl _ _).alloc (Nat.le_refl _) _)
theorem Chg.drew (h : Chg S a b) : Chg S a b.drew := h.below (Below.drew (Below.refl _ _))
theorem Chg.set (h : Chg S a b) {p : Addr} (hp : S p.block ∨ a.heap.size ≤ p.block) (u : Value) : Chg S a (b.setCell p u) :=
  h.trans (T := fun i => i = p.block) ⟨rfl, rfl, rfl, by simp [World.setCell], fun k _ hk => Below.heap_setCell _ _ _ _ hk⟩ (fun i e => e ▸ hp)
theorem Chg.to_below {B : Nat} (h : Chg S w w') (hS : ∀ k, S k → B ≤ k) (hB : B ≤ w.heap.size) : Below B w w' :=
  ⟨h.os, h.tape, h.output, h.size, fun k hk => h.block k (by omega) (fun e => by have := hS k e; omega)⟩
theorem Chg.cell (h : Chg S w w') {p : Addr} (hp : p.block < w.heap.size) (hs : ¬ S p.block) : w'.cell? p = w.cell? p := World.cell?_of_block (h.block _ hp hs)
theorem owns_chg {base : Nat} {e : TypeId} {size : Nat} {v : Value} {n : Nat} {xs : List Value} (h : w.ownsRow base e size v n xs) (hc : Chg S w w') (hs : ∀ k, v.ownBlock = some k → ¬ S k) : w'.ownsRow base e size v n xs := by
  refine ⟨h.1, ?_⟩
  rcases h.2 with h2 | ⟨g, cap, cur, rfl, hg, hh, k⟩
  · exact .inl h2
  · exact .inr ⟨g, cap, cur, rfl, hg, (hc.block g (Array.getElem?_eq_some_iff.1 hh).1 (hs g rfl)).trans hh, k⟩
end
/-- Rows of unlike element types lie apart. -/
theorem own_unlike {w : World} {b b' : Nat} {e e' : TypeId} {s s' : Nat} {v v' : Value} {n n' : Nat} {xs xs' : List Value} (h : w.ownsRow b e s v n xs) (h' : w.ownsRow b' e' s' v' n' xs') (he : e ≠ e') : ∀ k, v.ownBlock = some k → v'.ownBlock ≠ some k := by
  intro k hk hk'
  rcases h.2 with ⟨rfl, -⟩ | ⟨g, cap, cur, rfl, hg, hh, -⟩
  · simp [Value.ownBlock] at hk
  · rcases h'.2 with ⟨rfl, -⟩ | ⟨g', cap', cur', rfl, hg', hh', -⟩
    · simp [Value.ownBlock] at hk'
    · simp only [Value.ownBlock, Option.some.injEq] at hk hk'
      subst hk
      subst hk'
      rw [hh] at hh'
      simp only [Option.some.injEq, Obj.cells.injEq] at hh'
      exact he hh'.2.1
theorem own_unlike_box {w : World} {b : Nat} {e e' : TypeId} {s : Nat} {v : Value} {n : Nat} {xs : List Value} (h : w.ownsRow b e s v n xs) {k : Nat} {cs : Array Value} {f : Nat × Nat} (h' : w.heap[k]? = some (.cells cs e' f)) (he : e ≠ e') : v.ownBlock ≠ some k := by
  intro hk
  rcases h.2 with ⟨rfl, -⟩ | ⟨g, cap, cur, rfl, hg, hh, -⟩
  · simp [Value.ownBlock] at hk
  · simp only [Value.ownBlock, Option.some.injEq] at hk
    subst hk
    rw [hh] at h'
    simp only [Option.some.injEq, Obj.cells.injEq] at h'
    exact he h'.2.1
/-- A store of one cell into the inner block. -/
theorem box_set {w : World} {b : Nat} {cs : Array Value} {T : TypeId} (h : w.heap[b]? = some (.cells cs T (0, 0))) (i : Nat) (u : Value) : (w.setCell ⟨b, i, none⟩ u).heap[b]? = some (.cells (cs.setIfInBounds i u) T (0, 0)) := by
  obtain ⟨hlt, hk⟩ := Array.getElem?_eq_some_iff.1 h
  show (w.heap.modify b _)[b]? = _
  rw [Array.getElem?_eq_getElem (by rw [Array.size_modify]; exact hlt), Array.getElem_modify_self, hk]
  rfl
open Kit (natVals)
/-- A hierarchy as it lies: its blocks, and what they hold. -/
structure HV where
  hb : Nat
  mb : Nat
  cv : Value
  ov : Value
  n : Nat
  nm : Nat → ByteArray
  su : Nat → Int
  dp : Nat → Nat
  sv : Nat → Value
  sb : Nat → List Nat
  od : List Nat
def HV.row (H : HV) (k : Nat) : List Value := [.string (H.nm k), .int .i64 (H.su k), .int .i64 (H.dp k : Int), H.sv k]
def HV.rows (H : HV) : List Value := (List.range H.n).flatMap H.row
def HV.names (H : HV) : List ByteArray := (List.range H.n).map H.nm
theorem HV.row_len (H : HV) (k : Nat) : (H.row k).length = 4 := rfl
theorem HV.at (H : HV) {k j : Nat} (hk : k < H.n) (hj : j < 4) : H.rows[k * 4 + j]? = (H.row k)[j]? := Kit.flat_at H.row_len (by rw [List.getElem?_range hk]) j hj
def HV.foot (H : HV) (k : Nat) : Prop := k = H.hb ∨ k = H.mb ∨ H.cv.ownBlock = some k ∨ H.ov.ownBlock = some k ∨ ∃ i, i < H.n ∧ (H.sv i).ownBlock = some k
/-- A hierarchy in memory, in blocks from base on. -/
structure HM (w : World) (base : Nat) (H : HV) : Prop where
  box : w.heap[H.hb]? = some (.cells #[H.cv, .map (some H.mb), H.ov] 77 (0, 0))
  map : NmM w H.mb H.names
  cls : w.ownsRow base 94 4 H.cv H.n H.rows
  ord : w.ownsRow base 3 1 H.ov H.od.length (natVals H.od)
  sub : ∀ k, k < H.n → w.ownsRow base 3 1 (H.sv k) (H.sb k).length (natVals (H.sb k))
  ap : ∀ i j, i < H.n → j < H.n → i ≠ j → ∀ b, (H.sv i).ownBlock = some b → (H.sv j).ownBlock ≠ some b
  apo : ∀ i, i < H.n → ∀ b, (H.sv i).ownBlock = some b → H.ov.ownBlock ≠ some b
  lh : base ≤ H.hb
  lm : base ≤ H.mb
theorem own_map {w : World} {b n z mb : Nat} {v : Value} {xs : List Value} {e : TypeId} {N : List ByteArray} (ho : w.ownsRow b e z v n xs) (hm : NmM w mb N) : v.ownBlock ≠ some mb := fun hk => by
  obtain ⟨es, c, h2⟩ := hm.is
  rcases ho.2 with ⟨rfl, -⟩ | ⟨g, cap, cur, rfl, hg, hh, -⟩
  · simp [Value.ownBlock] at hk
  · simp only [Value.ownBlock, Option.some.injEq] at hk
    subst hk
    rw [hh] at h2
    simp at h2
section
variable {w w' : World} {base : Nat} {H : HV}
theorem HM.hb_lt (h : HM w base H) : H.hb < w.heap.size := (Array.getElem?_eq_some_iff.1 h.box).1
theorem HM.mb_lt (h : HM w base H) : H.mb < w.heap.size := h.map.lt
theorem HM.base_lt (h : HM w base H) : base < w.heap.size := Nat.lt_of_le_of_lt h.lh h.hb_lt
theorem HM.ne (h : HM w base H) : H.hb ≠ H.mb := by
  intro e
  obtain ⟨es, c, h2⟩ := h.map.is
  have h1 := h.box
  rw [← e, h1] at h2
  simp at h2
theorem HM.low (h : HM w base H) : ∀ k, H.foot k → base ≤ k ∧ k < w.heap.size := by
  rintro k (rfl | rfl | e | e | ⟨i, hi, e⟩)
  · exact ⟨h.lh, h.hb_lt⟩
  · exact ⟨h.lm, h.mb_lt⟩
  · exact ⟨Kit.own_base h.cls k e, Kit.own_lt h.cls k e⟩
  · exact ⟨Kit.own_base h.ord k e, Kit.own_lt h.ord k e⟩
  · exact ⟨Kit.own_base (h.sub i hi) k e, Kit.own_lt (h.sub i hi) k e⟩
/-- What writes elsewhere leaves a hierarchy as it is. -/
theorem HM.chg {S : Nat → Prop} (h : HM w base H) (hc : Chg S w w') (hs : ∀ k, H.foot k → ¬ S k) : HM w' base H :=
  ⟨(hc.block _ h.hb_lt (hs _ (.inl rfl))).trans h.box, h.map.keep (hc.block _ h.mb_lt (hs _ (.inr (.inl rfl)))),
   owns_chg h.cls hc (fun k e => hs k (.inr (.inr (.inl e)))), owns_chg h.ord hc (fun k e => hs k (.inr (.inr (.inr (.inl e))))),
   fun i hi => owns_chg (h.sub i hi) hc (fun k e => hs k (.inr (.inr (.inr (.inr ⟨i, hi, e⟩))))), h.ap, h.apo, h.lh, h.lm⟩
theorem HM.below (h : HM w base H) (hb : Below w.heap.size w w') : HM w' base H := h.chg (S := fun _ => False) (Chg.of_below hb) (fun _ _ e => e)
theorem HM.cells (h : HM w base H) : w.cell? ⟨H.hb, 0, none⟩ = some H.cv ∧ w.cell? ⟨H.hb, 1, none⟩ = some (.map (some H.mb)) ∧ w.cell? ⟨H.hb, 2, none⟩ = some H.ov := by
  simp [World.cell?, h.box]
theorem HM.frozen (h : HM w base H) : ∀ j, w.frozen? ⟨H.hb, j, none⟩ = false := by
  intro j
  simp [World.frozen?, h.box]
/-- What the cells of a class hold, in sight. -/
theorem HM.class (h : HM w base H) : ∃ c p, H.cv = .slice c H.n p ∧ ∀ k, k < H.n → ∃ b, c = some ⟨b, 0, none⟩ ∧ b < w.heap.size ∧ w.cell? ⟨b, k * 4, none⟩ = some (.string (H.nm k)) ∧ w.cell? ⟨b, k * 4 + 1, none⟩ = some (.int .i64 (H.su k)) ∧
    w.cell? ⟨b, k * 4 + 2, none⟩ = some (.int .i64 (H.dp k : Int)) ∧ w.cell? ⟨b, k * 4 + 3, none⟩ = some (H.sv k) := by
  rcases h.cls.2 with ⟨h1, h2⟩ | ⟨g, cap, cur, h1, hg, hh, hc1, hc2, hc3, ht⟩
  · exact ⟨none, 0, by rw [h1, h2], fun k hk => by omega⟩
  · refine ⟨_, _, h1, fun k hk => ⟨g, rfl, (Array.getElem?_eq_some_iff.1 hh).1, ?_⟩⟩
    have hl := h.cls.1
    have hat : ∀ j, j < 4 → w.cell? ⟨g, k * 4 + j, none⟩ = (H.row k)[j]? := fun j hj => by
      have hx := H.at hk hj
      have hlt : k * 4 + j < H.rows.length := by rw [hl]; omega
      have : cur[k * 4 + j]? = (H.row k)[j]? := by
        rw [← ht, List.getElem?_take_of_lt (by omega)] at hx
        simpa using hx
      simp [World.cell?, hh, this]
    exact ⟨hat 0 (by omega), hat 1 (by omega), hat 2 (by omega), hat 3 (by omega)⟩
end
end Go.Proofs.YtahjnaoabfkpcaaDoor
namespace Go.Proofs.YtahjnaoabfkpcaaDoor.Hi

abbrev Ln := ByteArray × ByteArray
def bO : ByteArray := ⟨#[106, 97, 118, 97, 47, 108, 97, 110, 103, 47, 79, 98, 106, 101, 99, 116]⟩
def bT : ByteArray := ⟨#[106, 97, 118, 97, 47, 108, 97, 110, 103, 47, 84, 104, 114, 111, 119, 97, 98, 108, 101]⟩
/-- The lines of the classes that are built in. -/
def bl : List Ln := [(bO, ⟨#[]⟩), (bT, bO), (⟨#[106, 97, 118, 97, 47, 108, 97, 110, 103, 47, 65, 114, 105, 116, 104, 109, 101, 116, 105, 99, 69, 120, 99, 101, 112, 116, 105, 111, 110]⟩, bT), (⟨#[106, 97, 118, 97, 47, 108, 97, 110, 103, 47, 78, 117, 108, 108, 80, 111, 105, 110, 116, 101, 114, 69, 120, 99, 101, 112, 116, 105, 111, 110]⟩, bT), (⟨#[106, 97, 118, 97, 47, 108, 97, 110, 103, 47, 65, 114, 114, 97, 121, 73, 110, 100, 101, 120, 79, 117, 116, 79, 102, 66, 111, 117, 110, 100, 115, 69, 120, 99, 101, 112, 116, 105, 111, 110]⟩, bT), (⟨#[106, 97, 118, 97, 47, 108, 97, 110, 103, 47, 78, 101, 103, 97, 116, 105, 118, 101, 65, 114, 114, 97, 121, 83, 105, 122, 101, 69, 120, 99, 101, 112, 116, 105, 111, 110]⟩, bT), (⟨#[106, 97, 118, 97, 47, 108, 97, 110, 103, 47, 67, 108, 97, 115, 115, 67, 97, 115, 116, 69, 120, 99, 101, 112, 116, 105, 111, 110]⟩, bT), (⟨#[106, 97, 118, 97, 47, 108, 97, 110, 103, 47, 65, 114, 114, 97, 121, 83, 116, 111, 114, 101, 69, 120, 99, 101, 112, 116, 105, 111, 110]⟩, bT)]
def nms (L : List Ln) : List ByteArray := L.map (·.1)
/-- The super of each of them but the first. -/
def sup (L : List Ln) (k : Nat) : Nat := match L[k]? with | some x => (idx x.2 (nms L)).getD 0 | none => 0
def nmf (L : List Ln) (k : Nat) : ByteArray := match L[k]? with | some x => x.1 | none => ⟨#[]⟩
theorem nms_len (L : List Ln) : (nms L).length = L.length := by simp [nms]
theorem nms_eq (L : List Ln) : nms L = (List.range L.length).map (nmf L) := by
  apply List.ext_getElem?
  intro i
  unfold nms nmf
  rw [List.getElem?_map, List.getElem?_map]
  cases h : L[i]? with
  | none => rw [List.getElem?_eq_none (by rw [List.length_range]; exact List.getElem?_eq_none_iff.1 h)]; rfl
  | some x => rw [List.getElem?_range (List.getElem?_eq_some_iff.1 h).1]; simp [h]
theorem nmf_take (L : List Ln) {k : Nat} (hk : k ≤ L.length) : nms (L.take k) = (List.range k).map (nmf L) := by
  apply List.ext_getElem?
  intro i
  unfold nms nmf
  rw [List.getElem?_map, List.getElem?_map, List.getElem?_take]
  by_cases hi : i < k
  · rw [if_pos hi, List.getElem?_range hi]
    have : i < L.length := by omega
    simp [List.getElem?_eq_getElem this]
  · rw [if_neg hi, List.getElem?_eq_none (by rw [List.length_range]; omega)]; rfl
theorem sup_lt (L : List Ln) (hn : 1 ≤ L.length) (k : Nat) : sup L k < L.length := by
  unfold sup
  cases L[k]? with
  | none => show 0 < L.length; omega
  | some x =>
    cases h : idx x.2 (nms L) with
    | none => show (idx x.2 (nms L)).getD 0 < _; rw [h]; show 0 < L.length; omega
    | some j => have := idx_lt h; rw [nms_len] at this; show (idx x.2 (nms L)).getD 0 < _; rw [h]; exact this
open Classical in
/-- What is wrong with lines, or nothing. -/
noncomputable def errL (L : List Ln) : Int :=
  if ¬ (nms L).Nodup then 70
  else if ∃ k x, 1 ≤ k ∧ L[k]? = some x ∧ idx x.2 (nms L) = none then 71
  else if ¬ ∃ D, Tr L.length (sup L) D then 72 else 0
open Classical in
noncomputable def err (l : List Ln) : Int := if 64 < l.length then 3 else errL (bl ++ l)
theorem bl_nodup : (nms bl).Nodup := by decide
theorem bl_len : bl.length = 8 := rfl
end Go.Proofs.YtahjnaoabfkpcaaDoor.Hi
namespace Go.Proofs.YtahjnaoabfkpcaaDoor
open Go Go.RowKit
open Kit (natVals)

theorem owns_set {w : World} {base : Nat} {e : TypeId} {size g n cap : Nat} {xs : List Value} (h : w.ownsRow base e size (.slice (some ⟨g, 0, none⟩) n cap) n xs) (i : Nat) (u : Value) :
    (w.setCell ⟨g, i, none⟩ u).ownsRow base e size (.slice (some ⟨g, 0, none⟩) n cap) n (xs.set i u) := by
  refine ⟨by rw [List.length_set]; exact h.1, ?_⟩
  rcases h.2 with ⟨h2, -⟩ | ⟨g', cap', cur, hv, hg, hh, h1, h2, h3, h4⟩
  · cases h2
  · obtain ⟨e1, -, rfl⟩ := Value.slice.inj hv
    obtain rfl : g = g' := by simpa using e1
    refine .inr ⟨g, cap, cur.setIfInBounds i u, rfl, hg, box_set hh i u, h1, h2, by rw [Array.size_setIfInBounds]; exact h3, ?_⟩
    rw [Array.toList_setIfInBounds, ← h4]
    exact List.take_set
/-- A block known whole. -/
def BX (w : World) (b : Nat) (cs : Array Value) (T : TypeId) : Prop := w.heap[b]? = some (.cells cs T (0, 0))
theorem BX.new (w : World) (cs : Array Value) (T : TypeId) : BX (w.alloc (.cells cs T)) w.heap.size cs T := heap_alloc_new w _
theorem BX.sz {w : World} {b : Nat} {cs : Array Value} {T : TypeId} (h : BX w b cs T) : b < w.heap.size := (Array.getElem?_eq_some_iff.1 h).1
theorem BX.chg {S : Nat → Prop} {w w' : World} {b : Nat} {cs : Array Value} {T : TypeId} (h : BX w b cs T) (hc : Chg S w w') (hs : ¬ S b) : BX w' b cs T := (hc.block b h.sz hs).trans h
theorem BX.below {w w' : World} {b : Nat} {cs : Array Value} {T : TypeId} (h : BX w b cs T) (hb : Below w.heap.size w w') : BX w' b cs T := (hb.block b h.sz).trans h
theorem BX.cell {w : World} {b : Nat} {cs : Array Value} {T : TypeId} (h : BX w b cs T) (j : Nat) : w.cell? ⟨b, j, none⟩ = cs[j]? := by
  simp only [World.cell?]
  rw [show w.heap[(⟨b, j, none⟩ : Addr).block]? = _ from h]
  simp
theorem BX.frozen {w : World} {b : Nat} {cs : Array Value} {T : TypeId} (h : BX w b cs T) (j : Nat) : w.frozen? ⟨b, j, none⟩ = false := by
  simp only [World.frozen?]
  rw [show w.heap[(⟨b, j, none⟩ : Addr).block]? = _ from h]
  simp
/-- New cells, as an append's source. -/
theorem news_of (w : World) (cs : List Value) (t : TypeId) : ∀ j u, cs[j]? = some u → (w.alloc (.cells cs.toArray t)).cell? ((⟨w.heap.size, 0, none⟩ : Addr).add j) = some u := by
  intro j u h
  have e : (⟨w.heap.size, 0, none⟩ : Addr).add j = ⟨w.heap.size, j, none⟩ := by rw [Go.WideShapes.add_plain]; simp
  rw [e, BX.cell (BX.new w cs.toArray t)]
  simpa using h
/-- A function that is another one at one place. -/
def upd {α : Type} (f : Nat → α) (k : Nat) (x : α) : Nat → α := fun j => if j = k then x else f j
theorem upd_same {α : Type} (f : Nat → α) (k : Nat) (x : α) : upd f k x k = x := if_pos rfl
theorem upd_other {α : Type} (f : Nat → α) {j k : Nat} (x : α) (h : j ≠ k) : upd f k x j = f j := if_neg h
theorem flatMap_same {α : Type} {f g : α → List Value} : ∀ {l : List α}, (∀ x ∈ l, f x = g x) → l.flatMap f = l.flatMap g
  | [], _ => rfl
  | a :: l, h => by rw [List.flatMap_cons, List.flatMap_cons, h a (by simp), flatMap_same fun x hx => h x (by simp [hx])]
theorem rows_set {f f' : Nat → List Value} (hf : ∀ x, (f x).length = 4) : ∀ {n k i : Nat} {u : Value}, k < n → i < 4 → f' k = (f k).set i u → (∀ j, j ≠ k → f' j = f j) → ((List.range n).flatMap f).set (k * 4 + i) u = (List.range n).flatMap f'
  | 0, k, i, u, hk, _, _, _ => by omega
  | n + 1, k, i, u, hk, hi, h1, h2 => by
    rw [List.range_succ, List.flatMap_append, List.flatMap_append, List.set_append]
    have hl : ((List.range n).flatMap f).length = n * 4 := by rw [Kit.flat_len hf, List.length_range]
    by_cases e : k = n
    · subst e
      rw [if_neg (by omega), hl, show k * 4 + i - k * 4 = i by omega]
      congr 1
      · exact flatMap_same fun x hx => (h2 x (by have := List.mem_range.1 hx; omega)).symm
      · simp [h1]
    · rw [if_pos (by omega), rows_set hf (by omega) hi h1 h2]
      congr 1
      simp [h2 n (by omega)]
section
variable {w w1 : World} {base : Nat} {H : HV}
/-- Another row of classes. -/
theorem HM.setCv (h : HM w base H) (hc : Chg (fun k => k = H.mb ∨ H.cv.ownBlock = some k) w w1) {u : Value} (ho : w1.ownsRow base 94 4 u (H.n + 1) (H.rows ++ H.row H.n)) (hm : NmM w1 H.mb (H.names ++ [H.nm H.n]))
    (hs : H.sv H.n = .slice none 0 0) (hsb : H.sb H.n = []) : HM (w1.setCell ⟨H.hb, 0, none⟩ u) base { H with cv := u, n := H.n + 1 } := by
  have hbx : w1.heap[H.hb]? = _ := (hc.block _ h.hb_lt (by rintro (e | e); exact h.ne e; exact own_unlike_box h.cls h.box (by decide) e)).trans h.box
  have hS : Chg (fun k => k = H.hb) w1 (w1.setCell ⟨H.hb, 0, none⟩ u) := (Chg.refl (fun k => k = H.hb) w1).set (p := ⟨H.hb, 0, none⟩) (.inl rfl) u
  refine ⟨box_set hbx _ _, ?_, ?_, owns_chg (owns_chg h.ord hc (fun k e => by rintro (rfl | e2); exact own_map h.ord h.map e; exact own_unlike h.ord h.cls (by decide) k e e2)) hS (fun k e e2 => own_unlike_box h.ord h.box (by decide) (e2 ▸ e)), fun k hk => ?_, fun i j hi hj hij b hb => ?_, fun i hi b hb => ?_, h.lh, h.lm⟩
  · have e : (List.range (H.n + 1)).map H.nm = H.names ++ [H.nm H.n] := by rw [List.range_succ, List.map_append]; rfl
    show NmM _ _ ((List.range (H.n + 1)).map H.nm)
    rw [e]
    exact hm.keep (hS.block _ hm.lt (fun e => h.ne e.symm))
  · have e : (List.range (H.n + 1)).flatMap H.row = H.rows ++ H.row H.n := by rw [List.range_succ, List.flatMap_append]; simp [HV.rows]
    show World.ownsRow _ _ _ _ _ _ ((List.range (H.n + 1)).flatMap H.row)
    rw [e]
    exact owns_chg ho hS (fun k e e2 => own_unlike_box ho hbx (by decide) (e2 ▸ e))
  · show World.ownsRow _ base _ 1 (H.sv k) _ _
    by_cases e : k = H.n
    · subst e
      rw [hs]
      show World.ownsRow _ base _ 1 _ (H.sb H.n).length (natVals (H.sb H.n))
      rw [hsb]
      exact ⟨rfl, .inl ⟨rfl, rfl⟩⟩
    · have hk' : k < H.n := by have : k < H.n + 1 := hk; omega
      exact owns_chg (owns_chg (h.sub k hk') hc (fun k2 e => by rintro (rfl | e2); exact own_map (h.sub k hk') h.map e; exact own_unlike (h.sub k hk') h.cls (by decide) k2 e e2)) hS (fun k2 e e2 => own_unlike_box (h.sub k hk') h.box (by decide) (e2 ▸ e))
  · have hi' : i < H.n + 1 := hi
    have hj' : j < H.n + 1 := hj
    by_cases e : i = H.n
    · subst e
      have hb' : (H.sv H.n).ownBlock = some b := hb
      rw [hs] at hb'
      simp [Value.ownBlock] at hb'
    · by_cases e2 : j = H.n
      · subst e2
        intro hb'
        have hb'' : (H.sv H.n).ownBlock = some b := hb'
        rw [hs] at hb''
        simp [Value.ownBlock] at hb''
      · exact h.ap i j (by omega) (by omega) hij b hb
  · have hi' : i < H.n + 1 := hi
    by_cases e : i = H.n
    · subst e
      have hb' : (H.sv H.n).ownBlock = some b := hb
      rw [hs] at hb'
      simp [Value.ownBlock] at hb'
    · exact h.apo i (by omega) b hb
/-- A cell of a class is written: its super, or its depth. -/
theorem HM.setRow (h : HM w base H) {k i g p : Nat} {u : Value} (hk : k < H.n) (hi : i < 4) (hv : H.cv = .slice (some ⟨g, 0, none⟩) H.n p) {su : Nat → Int} {dp : Nat → Nat}
    (h1 : HV.row { H with su := su, dp := dp } k = (H.row k).set i u) (h2 : ∀ j, j ≠ k → su j = H.su j ∧ dp j = H.dp j) : HM (w.setCell ⟨g, k * 4 + i, none⟩ u) base { H with su := su, dp := dp } := by
  have hS : Chg (fun k => k = g) w (w.setCell ⟨g, k * 4 + i, none⟩ u) := (Chg.refl (fun k => k = g) w).set (p := ⟨g, k * 4 + i, none⟩) (.inl rfl) u
  have hg : H.cv.ownBlock = some g := by rw [hv]; rfl
  refine ⟨?_, ?_, ?_, owns_chg h.ord hS (fun k e e2 => own_unlike h.ord h.cls (by decide) k e (e2 ▸ hg)), fun k hk => owns_chg (h.sub k hk) hS (fun k2 e e2 => own_unlike (h.sub k hk) h.cls (by decide) k2 e (e2 ▸ hg)), h.ap, h.apo, h.lh, h.lm⟩
  · exact (hS.block _ h.hb_lt (fun e => own_unlike_box h.cls h.box (by decide) (e ▸ hg))).trans h.box
  · exact h.map.keep (hS.block _ h.mb_lt (fun e => own_map h.cls h.map (e ▸ hg)))
  · have ho := h.cls
    rw [hv] at ho
    have := owns_set ho (k * 4 + i) u
    show World.ownsRow _ base _ 4 H.cv H.n ((List.range H.n).flatMap (HV.row { H with su := su, dp := dp }))
    rw [← rows_set H.row_len hk hi h1 (fun j hj => by obtain ⟨a, b⟩ := h2 j hj; unfold HV.row; dsimp only; rw [a, b]), hv]
    exact this
/-- One more class under a class. -/
theorem HM.setSv (h : HM w base H) {k g p : Nat} {u : Value} {l : List Nat} (hk : k < H.n) (hv : H.cv = .slice (some ⟨g, 0, none⟩) H.n p) (hc : Chg (fun i => (H.sv k).ownBlock = some i) w w1) (ho : w1.ownsRow base 3 1 u l.length (natVals l))
    (hu : u.ownBlock = (H.sv k).ownBlock ∨ ∃ j, w.heap.size ≤ j ∧ u.ownBlock = some j) : HM (w1.setCell ⟨g, k * 4 + 3, none⟩ u) base { H with sv := upd H.sv k u, sb := upd H.sb k l } := by
  have hS : Chg (fun i => i = g) w1 (w1.setCell ⟨g, k * 4 + 3, none⟩ u) := (Chg.refl (fun i => i = g) w1).set (p := ⟨g, k * 4 + 3, none⟩) (.inl rfl) u
  have hg : H.cv.ownBlock = some g := by rw [hv]; rfl
  have hsk := h.sub k hk
  have ho1 := owns_chg h.cls hc (fun j e e2 => own_unlike h.cls hsk (by decide) j e e2)
  have hbx : w1.heap[H.hb]? = _ := (hc.block _ h.hb_lt (own_unlike_box hsk h.box (by decide))).trans h.box
  have hmm := h.map.keep (hc.block _ h.mb_lt (own_map hsk h.map))
  have hod := owns_chg h.ord hc (fun j e e2 => h.apo k hk j e2 e)
  have hne : ∀ i, i < H.n → i ≠ k → ∀ b, (H.sv i).ownBlock = some b → u.ownBlock ≠ some b := fun i hi hik b hb hub => by
    rcases hu with h1 | ⟨j, h1, h2⟩
    · exact h.ap i k hi hk hik b hb (h1.symm.trans hub)
    · have := Kit.own_lt (h.sub i hi) b hb
      rw [hub] at h2
      have := Option.some.inj h2
      omega
  refine ⟨(hS.block _ (Nat.lt_of_lt_of_le h.hb_lt hc.size) (fun e => own_unlike_box h.cls h.box (by decide) (e ▸ hg))).trans hbx, hmm.keep (hS.block _ hmm.lt (fun e => own_map h.cls h.map (e ▸ hg))), ?_,
    owns_chg hod hS (fun j e e2 => own_unlike hod ho1 (by decide) j e (e2 ▸ hg)), fun i hi => ?_, fun i j hi hj hij b hb => ?_, fun i hi b hb => ?_, h.lh, h.lm⟩
  · rw [hv] at ho1
    have := owns_set ho1 (k * 4 + 3) u
    show World.ownsRow _ base _ 4 H.cv H.n ((List.range H.n).flatMap (HV.row { H with sv := upd H.sv k u, sb := upd H.sb k l }))
    rw [← rows_set (f := H.row) (u := u) (i := 3) H.row_len hk (by omega) (by unfold HV.row; dsimp only; rw [upd_same]; rfl) (fun j hj => by unfold HV.row; dsimp only; rw [upd_other _ _ hj]), hv]
    exact this
  · show World.ownsRow _ base _ 1 (upd H.sv k u i) (upd H.sb k l i).length (natVals (upd H.sb k l i))
    by_cases e : i = k
    · subst e
      rw [upd_same, upd_same]
      exact owns_chg ho hS (fun j e e2 => own_unlike ho ho1 (by decide) j e (e2 ▸ hg))
    · rw [upd_other _ _ e, upd_other _ _ e]
      have hsi := owns_chg (h.sub i hi) hc (fun j e3 e2 => h.ap i k hi hk e j e3 e2)
      exact owns_chg hsi hS (fun j e3 e2 => own_unlike hsi ho1 (by decide) j e3 (e2 ▸ hg))
  · have hb' : (upd H.sv k u i).ownBlock = some b := hb
    show (upd H.sv k u j).ownBlock ≠ some b
    by_cases e : i = k
    · subst e
      rw [upd_same] at hb'
      rw [upd_other _ _ (fun e2 => hij e2.symm)]
      exact fun e3 => hne j hj (fun e2 => hij e2.symm) b e3 hb'
    · rw [upd_other _ _ e] at hb'
      by_cases e2 : j = k
      · subst e2
        rw [upd_same]
        exact hne i hi e b hb'
      · rw [upd_other _ _ e2]
        exact h.ap i j hi hj hij b hb'
  · have hb' : (upd H.sv k u i).ownBlock = some b := hb
    show H.ov.ownBlock ≠ some b
    by_cases e : i = k
    · subst e
      rw [upd_same] at hb'
      rcases hu with h1 | ⟨j, h1, h2⟩
      · exact h.apo i hi b (h1.symm.trans hb')
      · intro e3
        have := Kit.own_lt h.ord b e3
        rw [hb'] at h2
        have := Option.some.inj h2
        omega
    · rw [upd_other _ _ e] at hb'
      exact h.apo i hi b hb'
/-- Another order. -/
theorem HM.setOv (h : HM w base H) (hc : Chg (fun i => H.ov.ownBlock = some i) w w1) {u : Value} {l : List Nat} (ho : w1.ownsRow base 3 1 u l.length (natVals l)) (hu : u.ownBlock = H.ov.ownBlock ∨ ∃ j, w.heap.size ≤ j ∧ u.ownBlock = some j) :
    HM (w1.setCell ⟨H.hb, 2, none⟩ u) base { H with ov := u, od := l } := by
  have hbx : w1.heap[H.hb]? = _ := (hc.block _ h.hb_lt (own_unlike_box h.ord h.box (by decide))).trans h.box
  have hS : Chg (fun k => k = H.hb) w1 (w1.setCell ⟨H.hb, 2, none⟩ u) := (Chg.refl (fun k => k = H.hb) w1).set (p := ⟨H.hb, 2, none⟩) (.inl rfl) u
  have hmm := h.map.keep (hc.block _ h.mb_lt (own_map h.ord h.map))
  refine ⟨box_set hbx _ _, hmm.keep (hS.block _ hmm.lt (fun e => h.ne e.symm)), owns_chg (owns_chg h.cls hc (own_unlike h.cls h.ord (by decide))) hS (fun k e e2 => own_unlike_box h.cls h.box (by decide) (e2 ▸ e)),
    owns_chg ho hS (fun k e e2 => own_unlike_box ho hbx (by decide) (e2 ▸ e)), fun i hi => owns_chg (owns_chg (h.sub i hi) hc (fun j e e2 => h.apo i hi j e e2)) hS (fun k e e2 => own_unlike_box (h.sub i hi) h.box (by decide) (e2 ▸ e)), h.ap, fun i hi b hb => ?_, h.lh, h.lm⟩
  show u.ownBlock ≠ some b
  rcases hu with h1 | ⟨j, h1, h2⟩
  · rw [h1]; exact h.apo i hi b hb
  · intro e3
    have := Kit.own_lt (h.sub i hi) b hb
    rw [e3] at h2
    have := Option.some.inj h2
    omega
end
end Go.Proofs.YtahjnaoabfkpcaaDoor
namespace Go.Proofs.YtahjnaoabfkpcaaDoor
open Go Go.RowKit
open Kit (natVals)

theorem own_form {w : World} {base : Nat} {e : TypeId} {size : Nat} {v : Value} {n : Nat} {xs : List Value} (h : w.ownsRow base e size v n xs) : ∃ a cap, v = .slice a n cap := by
  rcases h.2 with ⟨rfl, rfl⟩ | ⟨g, cap, cur, rfl, -⟩
  · exact ⟨_, _, rfl⟩
  · exact ⟨_, _, rfl⟩
/-- A hierarchy that a call made. -/
structure HOk (H : HV) (P D : Nat → Nat) : Prop where
  tr : Hi.Tr H.n P D
  le : H.n ≤ 72
  su : ∀ k, k < H.n → H.su k = if k = 0 then -1 else (P k : Int)
  dp : ∀ k, k < H.n → H.dp k = D k
  sb : ∀ k, k < H.n → H.sb k = Hi.ch H.n P k
  od : H.od = Hi.ordL H.n D
/-- Its cells, in sight. -/
theorem HM.sight {w : World} {base : Nat} {H : HV} (h : HM w base H) (hn : 1 ≤ H.n) : ∃ g p, H.cv = .slice (some ⟨g, 0, none⟩) H.n p ∧ g < w.heap.size ∧ ∀ k, k < H.n → w.cell? ⟨g, k * 4, none⟩ = some (.string (H.nm k)) ∧ w.cell? ⟨g, k * 4 + 1, none⟩ = some (.int .i64 (H.su k)) ∧
    w.cell? ⟨g, k * 4 + 2, none⟩ = some (.int .i64 (H.dp k : Int)) ∧ w.cell? ⟨g, k * 4 + 3, none⟩ = some (H.sv k) := by
  obtain ⟨c, p, h1, h2⟩ := h.class
  obtain ⟨g, rfl, hg, -⟩ := h2 0 (by omega)
  refine ⟨g, p, h1, hg, fun k hk => ?_⟩
  obtain ⟨b, e, -, k0⟩ := h2 k hk
  obtain rfl : g = b := by simpa using e
  exact k0
section
variable {w : World} {base : Nat} {H : HV}
set_option maxRecDepth 100000
theorem has_any (h : HM w base H) (n : Int) : Calls Tryd.prog 76 #[.pointer (some ⟨H.hb, 0, none⟩), .int .i64 n] w fun e w' => e = .returned (.bool (decide (0 ≤ n) && decide (n < (H.n : Int)))) ∧ w = w' := by
  obtain ⟨k0, -, -⟩ := h.cells
  obtain ⟨c, p, hc⟩ := own_form h.cls
  rw [hc] at k0
  clear h hc
  by_cases hn : 0 ≤ n
  · have d : decide (0 ≤ n) = true := by simpa using hn
    rw [d]
    go_enter Tryd.func76, Tryd.ntmps76
    go_wp2
    go_ret
    exact ⟨by simp, rfl⟩
  · have d : decide (0 ≤ n) = false := by simpa using hn
    rw [d]
    go_enter Tryd.func76, Tryd.ntmps76
    go_wp2
    go_ret
    exact ⟨by simp, rfl⟩
/-- Whether a number is a class's. -/
def isC (n : Nat) (k : Int) : Bool := decide (0 ≤ k) && decide (k < (n : Int))
theorem isC_yes {n : Nat} {k : Int} (h : isC n k = true) : ∃ j : Nat, k = (j : Int) ∧ j < n := by
  unfold isC at h
  simp only [Bool.and_eq_true, decide_eq_true_eq] at h
  exact ⟨k.toNat, by omega, by omega⟩
theorem isC_nat {n j : Nat} (h : j < n) : isC n (j : Int) = true := by
  unfold isC
  simp only [Bool.and_eq_true, decide_eq_true_eq]
  omega
def HV.nameO (H : HV) (k : Int) : ByteArray := if isC H.n k = true then H.nm k.toNat else ⟨#[]⟩
theorem Name_any (h : HM w base H) (k : Int) : Calls Tryd.prog 65 #[.pointer (some ⟨H.hb, 0, none⟩), .int .i64 k] w fun e w' => e = .returned (.string (H.nameO k)) ∧ w = w' := by
  have HH := has_any h k
  obtain ⟨k0, -, -⟩ := h.cells
  unfold HV.nameO
  change Calls _ _ _ _ fun e w' => e = .returned (.bool (isC H.n k)) ∧ w = w' at HH
  cases hi : isC H.n k with
  | false =>
    rw [hi] at HH
    clear h k0 hi
    go_enter Tryd.func65, Tryd.ntmps65
    go_wp2_with (go_at_call 76; refine HH.mono ?_; rintro e w' ⟨rfl, rfl⟩)
    go_ret
    exact ⟨by simp, rfl⟩
  | true =>
    rw [hi] at HH
    obtain ⟨j, rfl, hj⟩ := isC_yes hi
    obtain ⟨g, p, hc, -, hs⟩ := h.sight (by omega)
    obtain ⟨c0, -, -, -⟩ := hs j hj
    rw [hc] at k0
    clear h hs hi hc
    go_enter Tryd.func65, Tryd.ntmps65
    go_wp2_with (go_at_call 76; refine HH.mono ?_; rintro e w' ⟨rfl, rfl⟩)
    go_ret
    exact ⟨by simp, rfl⟩
end
end Go.Proofs.YtahjnaoabfkpcaaDoor
namespace Go.Proofs.YtahjnaoabfkpcaaDoor
open Go Go.RowKit
open Kit (natVals)

theorem ib (y j : Nat) : ((y : Int) == (j : Int)) = decide (y = j) := by
  by_cases h : y = j
  · subst h; simp
  · rw [decide_eq_false h, beq_eq_false_iff_ne]; omega
section
variable {w : World} {base : Nat} {H : HV} {P D : Nat → Nat}
set_option maxRecDepth 100000
theorem Find_any (h : HM w base H) (s : ByteArray) (hs : s.size ≤ maxLen) : Calls Tryd.prog 50 #[.pointer (some ⟨H.hb, 0, none⟩), .string s] w fun e w' =>
    e = .returned (.tuple #[.int .i64 (((Hi.idx s H.names).getD 0 : Nat) : Int), .bool (Hi.idx s H.names).isSome]) ∧ w = w' := by
  obtain ⟨-, k1, -⟩ := h.cells
  have hl := h.map.look s hs
  clear h
  obtain ⟨r, hr⟩ : ∃ r, r = (((Hi.idx s H.names).getD 0 : Nat) : Int) := ⟨_, rfl⟩
  obtain ⟨b, hb⟩ : ∃ b, b = (Hi.idx s H.names).isSome := ⟨_, rfl⟩
  rw [← hr, ← hb] at hl ⊢
  clear hr hb
  go_enter Tryd.func50, Tryd.ntmps50
  go_wp2
  exact bodyPost_ret (v := .tuple #[.int .i64 r, .bool b]) (by simp [results, Tryd.results50, go_sem]) rfl ⟨rfl, rfl⟩
theorem above_any (h : HM w base H) (ok : HOk H P D) (k d : Nat) (hk : k < H.n) : Calls Tryd.prog 77 #[.pointer (some ⟨H.hb, 0, none⟩), .int .i64 (k : Int), .int .i64 (d : Int)] w fun e w' =>
    e = .returned (.int .i64 (Hi.upn P (D k - d) k : Nat)) ∧ w = w' := by
  obtain ⟨k0, -, -⟩ := h.cells
  obtain ⟨g, p, hc, -, hs⟩ := h.sight ok.tr.pos
  rw [hc] at k0
  have HS := hid hs
  have OK := hid ok
  have HK := hid hk
  clear h hs hc ok hk
  go_enter Tryd.func77, Tryd.ntmps77
  go_wp2
  go_loop [1] (fun i => ∃ j : Nat, i = .int .i64 (j : Int) ∧ Hid (j < H.n) ∧ Hid (Hi.upn P (D j - d) j = Hi.upn P (D k - d) k)) (fun i => D (intOf i).toNat)
  case atStart => exact ⟨k, rfl, HK, rfl⟩
  case round =>
    obtain ⟨j, rfl, hj, he⟩ := hrel
    obtain ⟨-, c1, c2, -⟩ := HS.out j hj.out
    rw [OK.out.su j hj.out] at c1
    rw [OK.out.dp j hj.out] at c2
    have hjn := hj.out
    by_cases hlt : d < D j
    · have hj1 : 1 ≤ j := by
        rcases Nat.eq_zero_or_pos j with rfl | h1
        · have := OK.out.tr.zero; omega
        · exact h1
      rw [if_neg (by omega)] at c1
      have hdp := OK.out.tr.dep j hj1 hj.out
      have he2 := he.out
      rw [show D j - d = (D (P j) - d) + 1 by omega] at he2
      have HE := hid he2
      have hpn := OK.out.tr.up j hj1 hj.out
      have HPN := hid hpn
      have HD := hid hdp
      obtain ⟨q, hq⟩ : ∃ q, P j = q := ⟨_, rfl⟩
      obtain ⟨x, hx⟩ : ∃ x, D j = x := ⟨_, rfl⟩
      rw [hq] at c1 HPN HD
      rw [hx] at c2 hlt HD
      have HQ := hid hq
      have HX := hid hx
      clear he2 hdp hpn hq hx
      go_wp2
      go_round
      case rel => exact ⟨q, rfl, HPN, by have := HE.out; rw [← HQ.out]; exact this⟩
      case measure => have := HD.out; have := HX.out; simp [intOf]; omega
    · obtain ⟨x, hx⟩ : ∃ x, D j = x := ⟨_, rfl⟩
      have he2 := he.out
      rw [show D j - d = 0 by omega] at he2
      have HE := hid (show j = _ from he2)
      rw [hx] at c2 hlt
      clear he2 hx
      go_wp2
      go_ret
      exact ⟨by rw [← HE.out]; rfl, rfl⟩
def HV.underO (H : HV) (P D : Nat → Nat) (a b : Int) : Bool := isC H.n a && isC H.n b && Hi.und P D a.toNat b.toNat
theorem Under_any (h : HM w base H) (ok : HOk H P D) (a b : Int) : Calls Tryd.prog 63 #[.pointer (some ⟨H.hb, 0, none⟩), .int .i64 a, .int .i64 b] w fun e w' => e = .returned (.bool (H.underO P D a b)) ∧ w = w' := by
  have HA := has_any h a
  have HB := has_any h b
  obtain ⟨k0, -, -⟩ := h.cells
  unfold HV.underO
  change Calls _ _ _ _ fun e w' => e = .returned (.bool (isC H.n a)) ∧ w = w' at HA
  change Calls _ _ _ _ fun e w' => e = .returned (.bool (isC H.n b)) ∧ w = w' at HB
  obtain ⟨g, p, hc, -, hs⟩ := h.sight ok.tr.pos
  rw [hc] at k0
  cases hi : isC H.n a with
  | false =>
    rw [hi] at HA
    clear h k0 hi HB hs hc ok
    go_enter Tryd.func63, Tryd.ntmps63
    go_wp2_with (go_at_call 76; refine HA.mono ?_; rintro e w' ⟨rfl, rfl⟩)
    go_ret
    exact ⟨by simp, rfl⟩
  | true =>
    rw [hi] at HA
    obtain ⟨i, rfl, hin⟩ := isC_yes hi
    cases hj : isC H.n b with
    | false =>
      rw [hj] at HB
      clear h k0 hi hj hs hc ok
      go_enter Tryd.func63, Tryd.ntmps63
      go_wp2_with (first | (go_at_call 76; (with_reducible refine HA.mono ?_); rintro e w' ⟨rfl, rfl⟩) | (go_at_call 76; refine HB.mono ?_; rintro e w' ⟨rfl, rfl⟩))
      go_ret
      exact ⟨by simp, rfl⟩
    | true =>
      rw [hj] at HB
      obtain ⟨j, rfl, hjn⟩ := isC_yes hj
      obtain ⟨-, -, c2, -⟩ := hs j hjn
      rw [ok.dp j hjn] at c2
      have HAb := above_any h ok i (D j) hin
      obtain ⟨y, hy⟩ : ∃ y, Hi.upn P (D i - D j) i = y := ⟨_, rfl⟩
      have e : Hi.und P D (i : Int).toNat (j : Int).toNat = decide (y = j) := by
        rw [Int.toNat_natCast, Int.toNat_natCast]
        unfold Hi.und
        rw [hy]
      rw [e, Bool.true_and, Bool.true_and]
      rw [hy] at HAb
      obtain ⟨x, hx⟩ : ∃ x, D j = x := ⟨_, rfl⟩
      rw [hx] at c2 HAb
      clear e
      have hbq := ib y j
      clear h hi hj hs hc ok hx hy hin
      go_enter Tryd.func63, Tryd.ntmps63
      go_wp2_with (first | (go_at_call 77; refine HAb.mono ?_; rintro e w' ⟨rfl, rfl⟩) | (go_at_call 76; (with_reducible refine HA.mono ?_); rintro e w' ⟨rfl, rfl⟩) | (go_at_call 76; (with_reducible refine HB.mono ?_); rintro e w' ⟨rfl, rfl⟩))
      go_ret
      exact ⟨by first | rfl | simp, rfl⟩
end
end Go.Proofs.YtahjnaoabfkpcaaDoor
namespace Go.Proofs.YtahjnaoabfkpcaaDoor
open Go Go.RowKit
open Kit (natVals)

theorem infoI : (Tryd.prog.info? 3).map (fun i => (i.zero, i.size, i.bytes)) = some (some (.int .i64 0), 1, 8) := by kernel_rfl
theorem info_parts {P : Program} {t : TypeId} {z : Option Value} {s b : Nat} (h : (P.info? t).map (fun i => (i.zero, i.size, i.bytes)) = some (z, s, b)) : ∃ i, P.info? t = some i ∧ i.zero = z ∧ i.size = s ∧ i.bytes = b := by
  cases hi : P.info? t with
  | none => rw [hi] at h; simp at h
  | some i =>
    rw [hi] at h
    simp only [Option.map_some, Option.some.injEq, Prod.mk.injEq] at h
    exact ⟨i, rfl, h.1, h.2.1, h.2.2⟩
theorem natVals_one (l : List Nat) : ∀ u ∈ natVals l, u.oneCell' = true := by
  intro u hu
  unfold natVals at hu
  obtain ⟨n, -, rfl⟩ := List.mem_map.1 hu
  rfl
section
variable {w : World} {base : Nat} {H : HV} {P D : Nat → Nat}
set_option maxRecDepth 100000
end
end Go.Proofs.YtahjnaoabfkpcaaDoor
