/- Own texts for the claim, part 1. -/
import Derived.WalkKit
import Derived.ProofKit
import Derived.OpenShut
import Derived.Maps.AppendAt
import Derived.Deep.RegionLaw
import Derived.RegionDies
import Derived.BigCall
import Derived.Deep.QuietTactic
import Derived.BigQuiet
import Derived.Lib.AppendZerosOnto
import Derived.Laws.CopyRow
import Derived.BigGuardPart
import Derived.Maps.Own
import Derived.Maps.OwnOps
import Derived.Maps.OwnSet
import Derived.Maps.Views
import Derived.DeepKeys4
import Derived.ChangeSlices
import Derived.Deep.DeepHandedRow
import Derived.Lib.LaidTab
import Derived.Test.YtkikdjphmnbmaaaChecked
import Derived.Test.YtkikdjphmnbmaaaRows
namespace Go.Proofs.Ytkikdjphmnbmaaa.Kit
open Go Go.RowKit Go.ChangeShapes Go.WideShapes Go.ChangeAt

section
variable {H : Type} {enc : TypeId × Value → H} {P : Program}
/-- Arguments read in a later world as they did. -/
theorem trodAll_later (hl : laidOutB P = true) {W W' : World} (hb : Below W.heap.size W W') (sp : Nat → Bool) :
    ∀ {ts : List TypeId} {vs : List Value} {ds : List (DataW H)} {ps : List MemPlace}, (∀ t ∈ ts, P.readableRec t = true ∧ t < P.types.size) → DataW.TrodAll enc P W 0 (fun _ => true) true ts vs ds ps →
      (∀ x ∈ ps, x.block < W.heap.size) → (∀ x ∈ ps, sp x.block = true) → DataW.TrodAll enc P W' 0 sp true ts vs ds ps
  | [], vs, ds, ps, _, h, _, _ => by
    obtain ⟨rfl, rfl, rfl⟩ := trodAll_nil h
    exact trodAll_mk0
  | t :: ts, vs, ds, ps, hr, h, hlt, hsp => by
    obtain ⟨v, vs', d, ds', p, q, rfl, rfl, rfl, h0, h1⟩ := trodAll_cons h
    exact trodAll_cons_mk (WideElems.Trod_stays hl (hr t (by simp)).1 (hr t (by simp)).2 h0 (fun x hx => hb.same (hlt x (by simp [hx]))) (fun x hx => hsp x (by simp [hx])))
      (trodAll_later hl hb sp (fun t ht => hr t (by simp [ht])) h1 (fun x hx => hlt x (by simp [hx])) (fun x hx => hsp x (by simp [hx])))
/-- A law's answer: true; all that it was handed reads as it did. -/
theorem law_post {f : Func} {s : ChangeSpec} {apart fresh handsOn again : Bool} {W W' : World} {args : Array Value} {ds gs : List (DataW H)} {before : List MemPlace} {tb : TypeId}
    (hv : s.vars = []) (hr : f.resultTypes = #[tb]) (htb : P.underlying tb = some .bool) (hl : laidOutB P = true) (hrd : ∀ t ∈ f.params.toList, P.readableRec t = true ∧ t < P.types.size)
    (hW : DataW.Whole enc P f.params.toList s.vars apart W args.toList ds gs before)
    (hfn : s.fn H (ds ++ gs) = { results := [.lit (.bool true)], args := ds }) (hb : Below W.heap.size W W') :
    s.post enc P f apart fresh handsOn again W args (.bool true) W' := by
  have hlt : ∀ p ∈ before, p.block < W.heap.size := fun p hp => hW.lt p hp
  have hW' := hW
  obtain ⟨p, q, hA, hV, rfl, hfz, hnd⟩ := hW
  rw [hv] at hV
  obtain ⟨rfl, rfl⟩ := trodVars_none hV
  simp only [List.append_nil] at hlt hfz hnd hW' hfn ⊢
  have hres : ∀ (b : Nat) (sp : Nat → Bool) (hd : Bool), DataW.TrodAll enc P W' b sp hd f.resultTypes.toList ((Value.bool true).resultList f.resultTypes.size) (s.fn H ds).results [] := by
    intro b sp hd
    rw [hr, hfn]
    exact trodAll_cons_mk (shut_bool htb _) trodAll_mk0
  have hargs : ∀ sp : Nat → Bool, (∀ x ∈ p, sp x.block = true) → DataW.TrodAll enc P W' 0 sp true f.params.toList args.toList (s.fn H ds).args p := by
    intro sp hsp
    rw [hfn]
    exact trodAll_later hl hb sp hrd hA hlt hsp
  have hvs : ∀ sp : Nat → Bool, DataW.TrodVars enc P W' sp s.vars (s.fn H ds).vars [] := by
    intro sp
    rw [hv, hfn]
    rfl
  have hold : ∀ x ∈ p, (fun b => decide (b < W.heap.size)) x.block = true := fun x hx => by simpa using hlt x hx
  refine ⟨ds, [], p, [], p, [], hW', ?_, ?_, ?_, World.keptBut_mono (fun x hx => ⟨hx, .inr (.inl hx)⟩) (hb.frame (· ∈ p)), fun _ => ?_⟩
  · rw [List.append_nil]; exact hres _ _ _
  · rw [List.append_nil]; exact hargs _ hold
  · rw [List.append_nil]; exact hvs _
  · refine ⟨ok_one hr rfl (okWide_bool_mk htb _), _, _, ([] ++ p) ++ [], ⟨[] ++ p, [], trodAll_append (hargs _ (fun _ _ => rfl)) (hres _ _ _), hvs _, rfl, ?_, ?_⟩, ?_⟩
    · intro b off hp
      have hin : MemPlace.cell b off ∈ p := by simpa using hp
      have := hb.frozen (p := ⟨b, off, none⟩) (hlt _ hin)
      rw [this]
      exact hfz b off hin
    · intro ha
      simpa using hnd ha
    · intro x hx _
      simpa using hx
end
end Go.Proofs.Ytkikdjphmnbmaaa.Kit
namespace Go.Proofs.Ytkikdjphmnbmaaa.Kit
open Go Go.RowKit

/-- A slice value of n elements, 'size' cells each, that reads as these cells. -/
def IsS (size : Nat) (w : World) (v : Value) (n : Nat) (xs : List Value) : Prop :=
  xs.length = n * size ∧ n ≤ 140737488355328 ∧ ((n = 0 ∧ ∃ a cap, v = .slice a 0 cap) ∨ (∃ b o cap, v = .slice (some ⟨b, o, none⟩) n cap ∧ n ≤ cap ∧ b < w.heap.size ∧ ∀ i u, xs[i]? = some u → w.cell? ⟨b, o + i, none⟩ = some u))
theorem IsS.below {size : Nat} {w w' : World} {v : Value} {n : Nat} {xs : List Value} (h : IsS size w v n xs) {B : Nat} (hb : Below B w w') (hB : w.heap.size ≤ B) : IsS size w' v n xs := by
  refine ⟨h.1, h.2.1, ?_⟩
  rcases h.2.2 with h | ⟨b, o, cap, hv, hl, hlt, hc⟩
  · exact .inl h
  · exact .inr ⟨b, o, cap, hv, hl, Nat.lt_of_lt_of_le hlt hb.size, fun i u hi => (hb.cell (p := ⟨b, o + i, none⟩) (by simp; omega)).trans (hc i u hi)⟩
theorem IsS.len {size : Nat} {w : World} {v : Value} {n : Nat} {xs : List Value} (h : IsS size w v n xs) : ∃ a cap, v = .slice a n cap := by
  rcases h.2.2 with ⟨rfl, a, cap, rfl⟩ | ⟨b, o, cap, rfl, -⟩
  · exact ⟨a, cap, rfl⟩
  · exact ⟨_, cap, rfl⟩
/-- What a slice with an element is. -/
theorem IsS.some {size : Nat} {w : World} {v : Value} {n : Nat} {xs : List Value} (h : IsS size w v n xs) (hn : 0 < n) :
    ∃ b o cap, v = .slice (Option.some ⟨b, o, none⟩) n cap ∧ n ≤ cap ∧ b < w.heap.size ∧ ∀ i u, xs[i]? = Option.some u → w.cell? ⟨b, o + i, none⟩ = Option.some u := by
  rcases h.2.2 with ⟨rfl, _⟩ | h
  · omega
  · exact h
theorem own_base {w : World} {base : Nat} {e : TypeId} {size : Nat} {v : Value} {n : Nat} {xs : List Value} (h : w.ownsRow base e size v n xs) : ∀ k, v.ownBlock = some k → base ≤ k := by
  intro k hk
  rcases h.2 with ⟨rfl, -⟩ | ⟨g, cap, cur, rfl, hg, -⟩
  · simp [Value.ownBlock] at hk
  · simp [Value.ownBlock] at hk; omega
/-- An owned row in a world in which its block has not turned. -/
theorem owns_below {w w' : World} {base B : Nat} {e : TypeId} {size : Nat} {v : Value} {n : Nat} {xs : List Value} (h : w.ownsRow base e size v n xs) (hb : Below B w w') (hB : w.heap.size ≤ B) : w'.ownsRow base e size v n xs := by
  obtain ⟨h1, h2⟩ := h
  refine ⟨h1, ?_⟩
  rcases h2 with h2 | ⟨g, cap, cur, hv, hg, hh, r⟩
  · exact .inl h2
  · refine .inr ⟨g, cap, cur, hv, hg, ?_, r⟩
    rw [hb.block g (by rw [Array.getElem?_eq_some_iff] at hh; have := hh.1; omega)]
    exact hh
/-- A place in a list laid flat. -/
theorem flat_at {α : Type} {f : α → List Value} {s : Nat} (hf : ∀ x, (f x).length = s) : ∀ {l : List α} {k : Nat} {x : α}, l[k]? = some x → ∀ j, j < s → (l.flatMap f)[k * s + j]? = (f x)[j]?
  | [], _, _, h, _, _ => by simp at h
  | a :: l, 0, x, h, j, hj => by
    simp only [List.getElem?_cons_zero, Option.some.injEq] at h
    subst h
    rw [List.flatMap_cons, List.getElem?_append_left (by rw [hf]; omega)]
    simp
  | a :: l, k + 1, x, h, j, hj => by
    rw [List.flatMap_cons, List.getElem?_append_right (by rw [hf, Nat.add_mul]; omega), hf]
    rw [show (k + 1) * s + j - s = k * s + j by rw [Nat.add_mul]; omega]
    exact flat_at hf (by simpa using h) j hj
theorem flat_len {α : Type} {f : α → List Value} {s : Nat} (hf : ∀ x, (f x).length = s) : ∀ l : List α, (l.flatMap f).length = l.length * s
  | [] => by simp
  | a :: l => by rw [List.flatMap_cons, List.length_append, hf, flat_len hf l, List.length_cons, Nat.add_mul]; omega
/-- One new cell, as an append's source. -/
theorem news_one (w : World) (x : Value) (t : TypeId) : ∀ j u, [x][j]? = some u → (w.alloc (.cells #[x] t)).cell? ((⟨w.heap.size, 0, none⟩ : Addr).add j) = some u := by
  intro j u h
  match j, h with
  | 0, h =>
    simp only [List.getElem?_cons_zero, Option.some.injEq] at h
    subst h
    show (w.alloc (.cells #[x] t)).cell? ⟨w.heap.size, 0, none⟩ = some x
    rw [World.cell?_alloc_new]; rfl
  | j + 1, h => simp at h
theorem ones_one {x : Value} (h : x.oneCell' = true) : ∀ u ∈ [x], u.oneCell' = true := by
  intro u hu
  simp only [List.mem_singleton] at hu
  subst hu; exact h
/-- Numbers as cells. -/
def natVals (ns : List Nat) : List Value := ns.map fun n : Nat => .int .i64 (n : Int)
theorem natVals_snoc (ns : List Nat) (n : Nat) : natVals (ns ++ [n]) = natVals ns ++ [.int .i64 (n : Int)] := by unfold natVals; simp
theorem natVals_at {ns : List Nat} {k n : Nat} (h : ns[k]? = some n) : (natVals ns)[k]? = some (.int .i64 (n : Int)) := by unfold natVals; simp [h]
end Go.Proofs.Ytkikdjphmnbmaaa.Kit
namespace Go.Proofs.Ytkikdjphmnbmaaa.Kit
open Go Go.RowKit

theorem own_lt {w : World} {base : Nat} {e : TypeId} {size : Nat} {v : Value} {n : Nat} {xs : List Value} (h : w.ownsRow base e size v n xs) : ∀ k, v.ownBlock = some k → k < w.heap.size := by
  intro k hk
  rcases h.2 with ⟨rfl, -⟩ | ⟨g, cap, cur, rfl, hg, hh, -⟩
  · simp [Value.ownBlock] at hk
  · simp only [Value.ownBlock, Option.some.injEq] at hk
    subst hk
    rw [Array.getElem?_eq_some_iff] at hh
    exact hh.1
/-- From w to w' only the row of v may have been written; the new value's row is that one, or a new one. -/
structure Grows (w w' : World) (v v' : Value) : Prop where
  grown : w.grownBy w' v.ownBlock
  blk : v'.ownBlock = v.ownBlock ∨ ∃ k, w.heap.size ≤ k ∧ v'.ownBlock = some k
theorem Grows.refl (w : World) (v : Value) : Grows w w v v := ⟨⟨rfl, rfl, rfl, Nat.le_refl _, fun _ _ _ => rfl⟩, .inl rfl⟩
theorem Grows.trans {a b c : World} {u v x : Value} (h : Grows a b u v) (k : Grows b c v x) : Grows a c u x := by
  refine ⟨⟨k.grown.os.trans h.grown.os, k.grown.tape.trans h.grown.tape, k.grown.output.trans h.grown.output, Nat.le_trans h.grown.size k.grown.size, fun i hi hne => ?_⟩, ?_⟩
  · have h2 : some i ≠ v.ownBlock := by
      rcases h.blk with e | ⟨j, hj, e⟩
      · rw [e]; exact hne
      · rw [e]; intro e2; have := Option.some.inj e2; omega
    exact (k.grown.block i (Nat.lt_of_lt_of_le hi h.grown.size) h2).trans (h.grown.block i hi hne)
  · rcases k.blk with e | ⟨j, hj, e⟩
    · rw [e]; exact h.blk
    · exact .inr ⟨j, Nat.le_trans h.grown.size hj, e⟩
theorem Grows.below {a b c : World} {u v : Value} (h : Grows a b u v) (k : Below b.heap.size b c) : Grows a c u v :=
  ⟨⟨k.os.trans h.grown.os, k.tape.trans h.grown.tape, k.output.trans h.grown.output, Nat.le_trans h.grown.size k.size, fun i hi hne => (k.block i (Nat.lt_of_lt_of_le hi h.grown.size)).trans (h.grown.block i hi hne)⟩, h.blk⟩
/-- A cell of a block that is not the row's. -/
theorem Grows.cell {w w' : World} {v v' : Value} (h : Grows w w' v v') {b : Nat} (hb : b < w.heap.size) (hne : ∀ k, v.ownBlock = some k → k ≠ b) (o : Nat) : w'.cell? ⟨b, o, none⟩ = w.cell? ⟨b, o, none⟩ :=
  World.cell?_of_block (h.grown.block b hb (fun e => hne b e.symm rfl))
theorem Grows.frozen {w w' : World} {v v' : Value} (h : Grows w w' v v') {b : Nat} (hb : b < w.heap.size) (hne : ∀ k, v.ownBlock = some k → k ≠ b) (o : Nat) : w'.frozen? ⟨b, o, none⟩ = w.frozen? ⟨b, o, none⟩ :=
  World.frozen?_of_block (h.grown.block b hb (fun e => hne b e.symm rfl))
theorem Grows.to_below {B : Nat} {a w w' : World} {v v' : Value} (h : Grows w w' v v') (hb : Below B a w) (hB : B ≤ w.heap.size) (hv : ∀ k, v.ownBlock = some k → B ≤ k) : Below B a w' := hb.grown h.grown hB hv
theorem Grows.size {w w' : World} {v v' : Value} (h : Grows w w' v v') : w.heap.size ≤ w'.heap.size := h.grown.size
end Go.Proofs.Ytkikdjphmnbmaaa.Kit
namespace Go.Proofs.Ytkikdjphmnbmaaa.Kit
open Go Go.RowKit

theorem step_call2 {P : Program} {ops : Array Oper} {o : Oper} {a : Act} {w : World} {K : Act → World → Prop} {Q : Exit → Act → World → Prop} {E : Prop}
    (hg : o.guard = none) (f : FuncId) (x y : Operand) (t t' : TypeId) (hop : o.op = Op.call { callee := Callee.value (.func f), args := #[x, y], argTypes := #[t, t'] }) (v v' : Value) (hx : a.eval x = v) (hy : a.eval y = v') (hcf : (callFunc f #[v, v']).run P w = .ok (.enter f #[v, v']) w)
    (R : Ending → World → Prop) (hC : Calls P f #[v, v'] w R) (hR : ∀ e w', R e w' → ∃ u, e = .returned u ∧ K (a.put o.dst u) w') :
    if Region.wanted o (yielded ops a.tmps) = true then Oper.wp P o a w K Q else E := by
  have hw : Region.wanted o (yielded ops a.tmps) = true := by simp [Region.wanted, hg]
  rw [if_pos hw]
  have hrun : (execOp a.eval o).run P w = .ok (.enter f #[v, v']) w := by
    cases o
    simp only at hop
    subst hop hx hy
    rw [execOp_call_go]
    simpa using hcf
  unfold Oper.wp
  rw [hrun]
  show Calls P f #[v, v'] w _
  refine hC.mono ?_
  intro e w' h
  obtain ⟨u, rfl, hk⟩ := hR e w' h
  exact hk
theorem step_append_own {P : Program} {ops : Array Oper} {o : Oper} {a : Act} {w : World} {K : Act → World → Prop} {Q : Exit → Act → World → Prop} {E : Prop}
    (hg : o.guard = none) (s x : Operand) (t : TypeId) (hop : o.op = Op.call { callee := Callee.builtin Builtin.append, args := #[s, x], argTypes := #[t, t] })
    (base : Nat) (e : TypeId) (i : TypeInfo) (z : Value) (size bytes : Nat) (ht : P.underlying t = some (.slice e)) (hi : P.info? e = some i) (hz : i.zero = some z)
    (hsize : i.size = size) (hby : i.bytes = bytes) (hzs : z.cells.size = size) (hsz : 0 < size)
    (v : Value) (n : Nat) (xs : List Value) (hs : a.eval s = v) (hown : w.ownsRow base e size v n xs)
    (ad : Addr) (m c : Nat) (news : List Value) (hx : a.eval x = .slice (some ad) m c) (hl : news.length = m * size) (hnews : ∀ j u, news[j]? = some u → w.cell? (ad.add j) = some u) (h1 : ∀ u ∈ news, u.oneCell' = true)
    (h63 : n + m ≤ maxLen) (hbytes : (n + m) * bytes ≤ 140737488355328) (hbase : base ≤ w.heap.size)
    (hK : ∀ v' w', w'.ownsRow base e size v' (n + m) (xs ++ news) → w.grownBy w' v.ownBlock → (v'.ownBlock = v.ownBlock ∨ v'.ownBlock = some w.heap.size) → K (a.put o.dst v') w') :
    if Region.wanted o (yielded ops a.tmps) = true then Oper.wp P o a w K Q else E := by
  have hw : Region.wanted o (yielded ops a.tmps) = true := by simp [Region.wanted, hg]
  rw [if_pos hw]
  obtain ⟨v', w', hr, h2, h3, -, h5⟩ := run_append_own_at (P := P) w base t o.type e i z size bytes ht hi hz hsize hby hzs hsz v n xs hown ad m c news hl hnews h1 h63 hbytes hbase
  unfold Oper.wp execOp
  simp only [hop, resolve, invoke, builtin, Sem.run_bind, Sem.run_pure, Result.andThen_ok, List.map_toArray, List.map_cons, List.map_nil, hs, hx, hr]
  exact hK _ _ h2 h3 h5
end Go.Proofs.Ytkikdjphmnbmaaa.Kit
namespace Go.Proofs.Ytkikdjphmnbmaaa
open Go Go.RowKit

theorem hid {p : Prop} (h : p) : Hid p := h
theorem belows {B : Nat} {a b c : World} (h : Below B a b) (k : Below b.heap.size b c) (hB : B ≤ b.heap.size) : Below B a c := h.trans (k.mono hB)
theorem belows_drewN {B : Nat} {a b : World} (h : Below B a b) (n : Nat) : Below B a (b.drewN n) := ⟨h.os, h.tape, h.output, h.size, h.block⟩
theorem below_drewN (w : World) (n : Nat) : Below w.heap.size w (w.drewN n) := ⟨rfl, rfl, rfl, Nat.le_refl _, fun _ _ => rfl⟩
namespace Hp
structure Ty where
  k : Int
  s : ByteArray
structure Vl where
  k : Int
  n : Int
/-- A heap as it lies: its limit, classes, cells of types and of values, and where their rows end. -/
structure St where
  lim : Nat
  cs : List Int
  tc : List Ty
  te : List Nat
  vc : List Vl
  ve : List Nat
def T0 : Ty := ⟨0, ⟨#[]⟩⟩
def V0 : Vl := ⟨0, 0⟩
end Hp
def tL (t : Hp.Ty) : List Value := [.int .i64 t.k, .string t.s]
def vL (v : Hp.Vl) : List Value := [.int .i64 v.k, .int .i64 v.n]
def tA (t : Hp.Ty) : Value := .agg #[.int .i64 t.k, .string t.s]
def vA (v : Hp.Vl) : Value := .agg #[.int .i64 v.k, .int .i64 v.n]
def iL (l : List Int) : List Value := l.map (Value.int .i64)
theorem tL_len (t : Hp.Ty) : (tL t).length = 2 := rfl
theorem vL_len (v : Hp.Vl) : (vL v).length = 2 := rfl
theorem iL_snoc (l : List Int) (x : Int) : iL (l ++ [x]) = iL l ++ [.int .i64 x] := by simp [iL]
/-- Of the blocks that there were, only those of S may have been written. -/
structure Chg (S : Nat → Prop) (w w' : World) : Prop where
  os : w'.os = w.os
  tape : w'.tape = w.tape
  output : w'.output = w.output
  size : w.heap.size ≤ w'.heap.size
  block : ∀ k, k < w.heap.size → ¬ S k → w'.heap[k]? = w.heap[k]?
section
variable {S T : Nat → Prop} {a b c w w' : World}
theorem Chg.refl (S : Nat → Prop) (w : World) : Chg S w w := ⟨rfl, rfl, rfl, Nat.le_refl _, fun _ _ _ => rfl⟩
theorem Chg.trans (h : Chg S a b) (k : Chg T b c) (hT : ∀ i, T i → S i ∨ a.heap.size ≤ i) : Chg S a c :=
  ⟨k.os.trans h.os, k.tape.trans h.tape, k.output.trans h.output, Nat.le_trans h.size k.size, fun i hi hs =>
    (k.block i (Nat.lt_of_lt_of_le hi h.size) (fun ht => by rcases hT i ht with h1 | h1; exact hs h1; omega)).trans (h.block i hi hs)⟩
theorem Chg.mono (h : Chg S a b) (hs : ∀ i, i < a.heap.size → S i → T i) : Chg T a b := ⟨h.os, h.tape, h.output, h.size, fun i hi ht => h.block i hi (fun e => ht (hs i hi e))⟩
theorem Chg.of_below (h : Below w.heap.size w w') : Chg S w w' := ⟨h.os, h.tape, h.output, h.size, fun k hk _ => h.block k hk⟩
theorem Chg.below (h : Chg S a b) (k : Below b.heap.size b c) : Chg S a c := h.trans (Chg.of_below (S := fun _ => False) k) (fun _ e => e.elim)
theorem Chg.of_grown {row : Option Nat} (h : w.grownBy w' row) (hr : ∀ k, row = some k → S k) : Chg S w w' :=
  ⟨h.os, h.tape, h.output, h.size, fun k hk hs => h.block k hk (fun e => hs (hr k e.symm))⟩
theorem Chg.grown {row : Option Nat} (h : Chg S a b) (k : b.grownBy c row) (hr : ∀ k, row = some k → S k ∨ a.heap.size ≤ k) : Chg S a c :=
  h.trans (Chg.of_grown (S := fun i => row = some i) k (fun _ e => e)) (fun i e => hr i e)
theorem Chg.alloc (h : Chg S a b) (o : Obj) : Chg S a (b.alloc o) := h.below ((Below.refl _ _).alloc (Nat.le_refl _) _)
theorem Chg.drew (h : Chg S a b) : Chg S a b.drew := h.below (Below.drew (Below.refl _ _))
theorem Chg.set (h : Chg S a b) {p : Addr} (hp : S p.block ∨ a.heap.size ≤ p.block) (u : Value) : Chg S a (b.setCell p u) :=
  h.trans (T := fun i => i = p.block) ⟨rfl, rfl, rfl, by simp [World.setCell], fun k _ hk => Below.heap_setCell _ _ _ _ hk⟩ (fun i e => e ▸ hp)
theorem Chg.to_below {B : Nat} (h : Chg S w w') (hS : ∀ k, S k → B ≤ k) (hB : B ≤ w.heap.size) : Below B w w' :=
  ⟨h.os, h.tape, h.output, h.size, fun k hk => h.block k (by omega) (fun e => by have := hS k e; omega)⟩
theorem Chg.cell (h : Chg S w w') {p : Addr} (hp : p.block < w.heap.size) (hs : ¬ S p.block) : w'.cell? p = w.cell? p := World.cell?_of_block (h.block _ hp hs)
theorem owns_chg {base : Nat} {e : TypeId} {size : Nat} {v : Value} {n : Nat} {xs : List Value} (h : w.ownsRow base e size v n xs) (hc : Chg S w w') (hs : ∀ k, v.ownBlock = some k → ¬ S k) : w'.ownsRow base e size v n xs := by
  refine ⟨h.1, ?_⟩
  rcases h.2 with h2 | ⟨g, cap, cur, rfl, hg, hh, k⟩
  · exact .inl h2
  · exact .inr ⟨g, cap, cur, rfl, hg, (hc.block g (Array.getElem?_eq_some_iff.1 hh).1 (hs g rfl)).trans hh, k⟩
end
/-- Rows of unlike element types lie apart. -/
theorem own_unlike {w : World} {b b' : Nat} {e e' : TypeId} {s s' : Nat} {v v' : Value} {n n' : Nat} {xs xs' : List Value} (h : w.ownsRow b e s v n xs) (h' : w.ownsRow b' e' s' v' n' xs') (he : e ≠ e') : ∀ k, v.ownBlock = some k → v'.ownBlock ≠ some k := by
  intro k hk hk'
  rcases h.2 with ⟨rfl, -⟩ | ⟨g, cap, cur, rfl, hg, hh, -⟩
  · simp [Value.ownBlock] at hk
  · rcases h'.2 with ⟨rfl, -⟩ | ⟨g', cap', cur', rfl, hg', hh', -⟩
    · simp [Value.ownBlock] at hk'
    · simp only [Value.ownBlock, Option.some.injEq] at hk hk'
      subst hk
      subst hk'
      rw [hh] at hh'
      simp only [Option.some.injEq, Obj.cells.injEq] at hh'
      exact he hh'.2.1
theorem own_unlike_box {w : World} {b : Nat} {e e' : TypeId} {s : Nat} {v : Value} {n : Nat} {xs : List Value} (h : w.ownsRow b e s v n xs) {k : Nat} {cs : Array Value} {f : Nat × Nat} (h' : w.heap[k]? = some (.cells cs e' f)) (he : e ≠ e') : v.ownBlock ≠ some k := by
  intro hk
  rcases h.2 with ⟨rfl, -⟩ | ⟨g, cap, cur, rfl, hg, hh, -⟩
  · simp [Value.ownBlock] at hk
  · simp only [Value.ownBlock, Option.some.injEq] at hk
    subst hk
    rw [hh] at h'
    simp only [Option.some.injEq, Obj.cells.injEq] at h'
    exact he h'.2.1
/-- The blocks of a heap. -/
structure HV where
  hb : Nat
  ib : Nat
  a : Value
  b : Value
  c : Value
  d : Value
  e : Value
def HV.foot (H : HV) (k : Nat) : Prop := k = H.hb ∨ k = H.ib ∨ H.a.ownBlock = some k ∨ H.b.ownBlock = some k ∨ H.c.ownBlock = some k ∨ H.d.ownBlock = some k ∨ H.e.ownBlock = some k
/-- A heap in memory, in blocks from base on. -/
structure Rep (w : World) (base : Nat) (H : HV) (s : Hp.St) : Prop where
  box : w.heap[H.hb]? = some (.cells #[.pointer (some ⟨H.ib, 0, none⟩)] 59 (0, 0))
  ins : w.heap[H.ib]? = some (.cells #[.int .i64 s.lim, H.a, H.b, H.c, H.d, H.e] 79 (0, 0))
  oa : w.ownsRow base 3 1 H.a s.cs.length (iL s.cs)
  ob : w.ownsRow base 33 2 H.b s.tc.length (s.tc.flatMap tL)
  oc : w.ownsRow base 3 1 H.c s.te.length (Kit.natVals s.te)
  od : w.ownsRow base 35 2 H.d s.vc.length (s.vc.flatMap vL)
  oe : w.ownsRow base 3 1 H.e s.ve.length (Kit.natVals s.ve)
  ac : ∀ k, H.a.ownBlock = some k → H.c.ownBlock ≠ some k
  ae : ∀ k, H.a.ownBlock = some k → H.e.ownBlock ≠ some k
  ce : ∀ k, H.c.ownBlock = some k → H.e.ownBlock ≠ some k
  lh : base ≤ H.hb
  li : base ≤ H.ib
section
variable {w w' : World} {base : Nat} {H : HV} {s : Hp.St}
theorem Rep.hb_lt (h : Rep w base H s) : H.hb < w.heap.size := (Array.getElem?_eq_some_iff.1 h.box).1
theorem Rep.ib_lt (h : Rep w base H s) : H.ib < w.heap.size := (Array.getElem?_eq_some_iff.1 h.ins).1
theorem Rep.base_lt (h : Rep w base H s) : base < w.heap.size := Nat.lt_of_le_of_lt h.lh h.hb_lt
theorem Rep.ne (h : Rep w base H s) : H.hb ≠ H.ib := by
  intro e
  have h1 := h.box
  have h2 := h.ins
  rw [← e, h1] at h2
  simp at h2
theorem Rep.low (h : Rep w base H s) : ∀ k, H.foot k → base ≤ k ∧ k < w.heap.size := by
  rintro k (rfl | rfl | e | e | e | e | e)
  · exact ⟨h.lh, h.hb_lt⟩
  · exact ⟨h.li, h.ib_lt⟩
  · exact ⟨Kit.own_base h.oa k e, Kit.own_lt h.oa k e⟩
  · exact ⟨Kit.own_base h.ob k e, Kit.own_lt h.ob k e⟩
  · exact ⟨Kit.own_base h.oc k e, Kit.own_lt h.oc k e⟩
  · exact ⟨Kit.own_base h.od k e, Kit.own_lt h.od k e⟩
  · exact ⟨Kit.own_base h.oe k e, Kit.own_lt h.oe k e⟩
/-- What writes elsewhere leaves a heap as it is. -/
theorem Rep.chg {S : Nat → Prop} (h : Rep w base H s) (hc : Chg S w w') (hs : ∀ k, H.foot k → ¬ S k) : Rep w' base H s :=
  ⟨(hc.block _ h.hb_lt (hs _ (.inl rfl))).trans h.box, (hc.block _ h.ib_lt (hs _ (.inr (.inl rfl)))).trans h.ins,
   owns_chg h.oa hc (fun k e => hs k (.inr (.inr (.inl e)))), owns_chg h.ob hc (fun k e => hs k (.inr (.inr (.inr (.inl e))))),
   owns_chg h.oc hc (fun k e => hs k (.inr (.inr (.inr (.inr (.inl e)))))), owns_chg h.od hc (fun k e => hs k (.inr (.inr (.inr (.inr (.inr (.inl e))))))),
   owns_chg h.oe hc (fun k e => hs k (.inr (.inr (.inr (.inr (.inr (.inr e))))))), h.ac, h.ae, h.ce, h.lh, h.li⟩
theorem Rep.below (h : Rep w base H s) (hb : Below w.heap.size w w') : Rep w' base H s := h.chg (S := fun _ => False) (Chg.of_below hb) (fun _ _ e => e)
theorem Rep.alloc (h : Rep w base H s) (o : Obj) : Rep (w.alloc o) base H s := h.below ((Below.refl _ _).alloc (Nat.le_refl _) _)
theorem Rep.drew (h : Rep w base H s) : Rep w.drew base H s := h.below (Below.drew (Below.refl _ _))
/-- What cells of the inner block hold. -/
theorem Rep.cells (h : Rep w base H s) : w.cell? ⟨H.hb, 0, none⟩ = some (.pointer (some ⟨H.ib, 0, none⟩)) ∧ w.cell? ⟨H.ib, 0, none⟩ = some (.int .i64 s.lim) ∧ w.cell? ⟨H.ib, 1, none⟩ = some H.a ∧ w.cell? ⟨H.ib, 2, none⟩ = some H.b ∧ w.cell? ⟨H.ib, 3, none⟩ = some H.c ∧ w.cell? ⟨H.ib, 4, none⟩ = some H.d ∧ w.cell? ⟨H.ib, 5, none⟩ = some H.e := by
  simp [World.cell?, h.box, h.ins]
theorem Rep.frozen (h : Rep w base H s) : ∀ j, w.frozen? ⟨H.ib, j, none⟩ = false := by
  intro j
  simp [World.frozen?, h.ins]
end
/-- Behind a call that goes on with a heap: what it lies in is what it lay in, or new. -/
structure Went (w w' : World) (base : Nat) (H H' : HV) (s' : Hp.St) : Prop where
  rep : Rep w' base H' s'
  chg : Chg H.foot w w'
  hb : H'.hb = H.hb
  ib : H'.ib = H.ib
  foot : ∀ k, H'.foot k → H.foot k ∨ w.heap.size ≤ k
theorem Went.refl {w : World} {base : Nat} {H : HV} {s : Hp.St} (h : Rep w base H s) : Went w w base H H s := ⟨h, Chg.refl _ _, rfl, rfl, fun _ e => .inl e⟩
theorem Went.trans {a b c : World} {base : Nat} {H H' H'' : HV} {s s' : Hp.St} (h : Went a b base H H' s) (k : Went b c base H' H'' s') : Went a c base H H'' s' :=
  ⟨k.rep, h.chg.trans k.chg (fun i e => h.foot i e), k.hb.trans h.hb, k.ib.trans h.ib, fun i e => by
    rcases k.foot i e with h1 | h1
    · exact h.foot i h1
    · exact .inr (Nat.le_trans h.chg.size h1)⟩
theorem Went.below {a b c : World} {base : Nat} {H H' : HV} {s : Hp.St} (h : Went a b base H H' s) (k : Below b.heap.size b c) : Went a c base H H' s := ⟨h.rep.below k, h.chg.below k, h.hb, h.ib, h.foot⟩
theorem Went.start {a b c : World} {base : Nat} {H H' : HV} {s : Hp.St} (h : Below a.heap.size a b) (k : Went b c base H H' s) : Went a c base H H' s :=
  ⟨k.rep, (Chg.of_below h).trans k.chg (fun _ e => .inl e), k.hb, k.ib, fun i e => by
    rcases k.foot i e with h1 | h1
    · exact .inl h1
    · exact .inr (Nat.le_trans h.size h1)⟩
/-- A store of one cell into the inner block. -/
theorem box_set {w : World} {b : Nat} {cs : Array Value} {T : TypeId} (h : w.heap[b]? = some (.cells cs T (0, 0))) (i : Nat) (u : Value) : (w.setCell ⟨b, i, none⟩ u).heap[b]? = some (.cells (cs.setIfInBounds i u) T (0, 0)) := by
  obtain ⟨hlt, hk⟩ := Array.getElem?_eq_some_iff.1 h
  show (w.heap.modify b _)[b]? = _
  rw [Array.getElem?_eq_getElem (by rw [Array.size_modify]; exact hlt), Array.getElem_modify_self, hk]
  rfl
end Go.Proofs.Ytkikdjphmnbmaaa
namespace Go.Proofs.Ytkikdjphmnbmaaa
open Go Go.RowKit

theorem own_form {w : World} {base : Nat} {e : TypeId} {size : Nat} {v : Value} {n : Nat} {xs : List Value} (h : w.ownsRow base e size v n xs) : ∃ a cap, v = .slice a n cap := by
  rcases h.2 with ⟨rfl, rfl⟩ | ⟨g, cap, cur, rfl, -⟩
  · exact ⟨_, _, rfl⟩
  · exact ⟨_, _, rfl⟩
theorem Rep.drewN {w : World} {base : Nat} {H : HV} {s : Hp.St} (h : Rep w base H s) (n : Nat) : Rep (w.drewN n) base H s := h.below (below_drewN w n)
set_option maxRecDepth 100000 in
theorem used_any {w : World} {base : Nat} {H : HV} {s : Hp.St} (h : Rep w base H s) (hn : s.cs.length + s.vc.length ≤ 140737488355328) :
    Calls Try.prog 37 #[.pointer (some ⟨H.ib, 0, none⟩)] w fun e w' => e = .returned (.int .i64 ((s.cs.length : Int) + (s.vc.length : Int))) ∧ ∃ m, w' = w.drewN m := by
  obtain ⟨hb, ib, va, vb, vc, vd, ve⟩ := H; obtain ⟨lim, cs, tc, te, vs, vn⟩ := s; have e1 := own_form h.oa; have e2 := own_form h.ob; have e3 := own_form h.oc; have e4 := own_form h.od; have e5 := own_form h.oe; dsimp only at *; obtain ⟨ua, pa, rfl⟩ := e1; obtain ⟨ub, pb, rfl⟩ := e2; obtain ⟨uc, pc, rfl⟩ := e3; obtain ⟨ud, pd, rfl⟩ := e4; obtain ⟨ue, pe, rfl⟩ := e5; have hcl := h.cells; have hgen := h.hb_lt; have hgen2 := h.ib_lt; have hgen3 := h.li; dsimp only at hcl hgen hgen2 hgen3; obtain ⟨k0, k1, k2, k3, k4, k5, k6⟩ := hcl; have HR := hid h; clear h
  go_enter Try.func37, Try.ntmps37
  go_wp2
  go_quiet (fail)
  go_wp2
  go_ret
  exact ⟨rfl, _, rfl⟩
set_option maxRecDepth 100000 in
theorem many_any {w : World} {base : Nat} {H : HV} {s : Hp.St} (h : Rep w base H s) :
    Calls Try.prog 43 #[.pointer (some ⟨H.ib, 0, none⟩)] w fun e w' => e = .returned (.int .i64 (s.cs.length : Int)) ∧ w = w' := by
  obtain ⟨hb, ib, va, vb, vc, vd, ve⟩ := H; obtain ⟨lim, cs, tc, te, vs, vn⟩ := s; have e1 := own_form h.oa; have e2 := own_form h.ob; have e3 := own_form h.oc; have e4 := own_form h.od; have e5 := own_form h.oe; dsimp only at *; obtain ⟨ua, pa, rfl⟩ := e1; obtain ⟨ub, pb, rfl⟩ := e2; obtain ⟨uc, pc, rfl⟩ := e3; obtain ⟨ud, pd, rfl⟩ := e4; obtain ⟨ue, pe, rfl⟩ := e5; have hcl := h.cells; have hgen := h.hb_lt; have hgen2 := h.ib_lt; have hgen3 := h.li; dsimp only at hcl hgen hgen2 hgen3; obtain ⟨k0, k1, k2, k3, k4, k5, k6⟩ := hcl; have HR := hid h; clear h
  go_enter Try.func43, Try.ntmps43
  go_wp2
  go_ret
  exact ⟨rfl, rfl⟩
set_option maxRecDepth 100000 in
theorem fits_any {w : World} {base : Nat} {H : HV} {s : Hp.St} (h : Rep w base H s) (n : Int) (hn : s.cs.length + s.vc.length ≤ 140737488355328) (hl : s.lim ≤ 140737488355328) :
    Calls Try.prog 39 #[.pointer (some ⟨H.ib, 0, none⟩), .int .i64 n] w fun e w' => e = .returned (.bool (decide (n < (s.lim : Int) - ((s.cs.length : Int) + (s.vc.length : Int))))) ∧ ∃ m, w' = w.drewN m := by
  have HU := hid (fun m => used_any (h.drewN m) hn)
  obtain ⟨hb, ib, va, vb, vc, vd, ve⟩ := H; obtain ⟨lim, cs, tc, te, vs, vn⟩ := s; have e1 := own_form h.oa; have e2 := own_form h.ob; have e3 := own_form h.oc; have e4 := own_form h.od; have e5 := own_form h.oe; dsimp only at *; obtain ⟨ua, pa, rfl⟩ := e1; obtain ⟨ub, pb, rfl⟩ := e2; obtain ⟨uc, pc, rfl⟩ := e3; obtain ⟨ud, pd, rfl⟩ := e4; obtain ⟨ue, pe, rfl⟩ := e5; have hcl := h.cells; have hgen := h.hb_lt; have hgen2 := h.ib_lt; have hgen3 := h.li; dsimp only at hcl hgen hgen2 hgen3; obtain ⟨k0, k1, k2, k3, k4, k5, k6⟩ := hcl; have HR := hid h; clear h
  go_enter Try.func39, Try.ntmps39
  go_wp2
  go_quiet ((go_at_call 37; exact Calls.quiet_of (HU.out _)))
  go_wp2
  go_ret
  exact ⟨rfl, _, rfl⟩
/-- What a reference names: an object's class, -1 of an array. -/
def clsOf (s : Hp.St) (ref : Int) : Option Int := if 1 ≤ ref then s.cs[(ref - 1).toNat]? else none
theorem iL_at {l : List Int} {i : Nat} {x : Int} (h : l[i]? = some x) : (iL l)[i]? = some (.int .i64 x) := by simp [iL, h]
theorem own_cell {w : World} {base : Nat} {e : TypeId} {size : Nat} {v : Value} {n : Nat} {xs : List Value} (h : w.ownsRow base e size v n xs) (hp : 0 < n) :
    ∃ g cap, v = .slice (some ⟨g, 0, none⟩) n cap ∧ n ≤ cap ∧ v.ownBlock = some g ∧ ∀ i u, xs[i]? = some u → w.cell? ⟨g, i, none⟩ = some u := by
  rcases h.2 with ⟨rfl, rfl⟩ | ⟨g, cap, cur, rfl, hg, hh, hc1, hc2, hc3, ht⟩
  · omega
  · refine ⟨g, cap, rfl, hc1, rfl, fun i u hi => ?_⟩
    have hlt : i < xs.length := by rw [List.getElem?_eq_some_iff] at hi; exact hi.1
    have hx := h.1
    have : cur[i]? = some u := by
      rw [← ht, List.getElem?_take_of_lt (by omega)] at hi
      simpa using hi
    simp [World.cell?, hh, this]
set_option maxRecDepth 100000 in
theorem class_any {w : World} {base : Nat} {H : HV} {s : Hp.St} (h : Rep w base H s) (ref : Int) (hr : -9223372036854775808 ≤ ref ∧ ref ≤ 9223372036854775807) (hn : s.cs.length ≤ 140737488355328) :
    Calls Try.prog 49 #[.pointer (some ⟨H.ib, 0, none⟩), .int .i64 ref] w fun e w' => e = .returned (.tuple #[.int .i64 ((clsOf s ref).getD 0), .bool (clsOf s ref).isSome]) ∧ Below w.heap.size w w' := by
  have HM := hid (many_any h)
  by_cases h1 : 1 ≤ ref
  · by_cases h2 : ref ≤ s.cs.length
    · have hlt : (ref - 1).toNat < s.cs.length := by omega
      obtain ⟨x, hx⟩ : ∃ x, s.cs[(ref - 1).toNat]? = some x := ⟨_, List.getElem?_eq_getElem hlt⟩
      have HC : Hid (clsOf s ref = some x) := by
        show clsOf s ref = some x
        unfold clsOf
        rw [if_pos h1, hx]
      obtain ⟨g, cap, hv, hcap, -, hcell⟩ := own_cell h.oa (by omega)
      have hx1 := hcell _ _ (iL_at hx)
      rw [show (ref - 1).toNat = ref.toNat - 1 by omega] at hx1
      have HX := hid hx
      have HV := hid hv
      clear hx hcell hv
      obtain ⟨hb, ib, va, vb, vc, vd, ve⟩ := H; obtain ⟨lim, cs, tc, te, vs, vn⟩ := s; have e1 := own_form h.oa; have e2 := own_form h.ob; have e3 := own_form h.oc; have e4 := own_form h.od; have e5 := own_form h.oe; dsimp only at *; obtain ⟨ua, pa, rfl⟩ := e1; obtain ⟨ub, pb, rfl⟩ := e2; obtain ⟨uc, pc, rfl⟩ := e3; obtain ⟨ud, pd, rfl⟩ := e4; obtain ⟨ue, pe, rfl⟩ := e5; have hcl := h.cells; have hgen := h.hb_lt; have hgen2 := h.ib_lt; have hgen3 := h.li; dsimp only at hcl hgen hgen2 hgen3; obtain ⟨k0, k1, k2, k3, k4, k5, k6⟩ := hcl; have HR := hid h; clear h
      rw [HV.out] at k2
      go_enter Try.func49, Try.ntmps49
      go_wp2_with (go_at_call 43; refine HM.out.mono ?_; rintro e w' ⟨rfl, rfl⟩)
      go_ret2
      exact ⟨by rw [HC.out]; rfl, (by repeat' first | with_reducible exact Below.refl _ _ | with_reducible assumption | with_reducible refine belows_drewN ?_ _ | with_reducible refine Below.drew ?_ | with_reducible refine Below.setCell ?_ ?_ _ | with_reducible refine Below.alloc ?_ ?_ _ | omega | (simp; done) | (simp; omega))⟩
    · have HC : Hid (clsOf s ref = none) := by
        show clsOf s ref = none
        unfold clsOf
        rw [if_pos h1, List.getElem?_eq_none (by omega)]
      go_enter Try.func49, Try.ntmps49
      go_wp2_with (go_at_call 43; refine HM.out.mono ?_; rintro e w' ⟨rfl, rfl⟩)
      go_ret2
      exact ⟨by rw [HC.out]; rfl, (by repeat' first | with_reducible exact Below.refl _ _ | with_reducible assumption | with_reducible refine belows_drewN ?_ _ | with_reducible refine Below.drew ?_ | with_reducible refine Below.setCell ?_ ?_ _ | with_reducible refine Below.alloc ?_ ?_ _ | omega | (simp; done) | (simp; omega))⟩
  · have HC : Hid (clsOf s ref = none) := by
      show clsOf s ref = none
      unfold clsOf
      rw [if_neg h1]
    go_enter Try.func49, Try.ntmps49
    go_wp2_with (go_at_call 43; refine HM.out.mono ?_; rintro e w' ⟨rfl, rfl⟩)
    go_ret2
    exact ⟨by rw [HC.out]; rfl, (by repeat' first | with_reducible exact Below.refl _ _ | with_reducible assumption | with_reducible refine belows_drewN ?_ _ | with_reducible refine Below.drew ?_ | with_reducible refine Below.setCell ?_ ?_ _ | with_reducible refine Below.alloc ?_ ?_ _ | omega | (simp; done) | (simp; omega))⟩
def isObjO : Option Int → Bool | some c => decide (c ≠ -1) | none => false
def isArrO : Option Int → Bool | some c => decide (c = -1) | none => false
def isArr (s : Hp.St) (ref : Int) : Bool := isArrO (clsOf s ref)
set_option maxRecDepth 100000 in
theorem isArray_any {w : World} {base : Nat} {H : HV} {s : Hp.St} (h : Rep w base H s) (ref : Int) (hr : -9223372036854775808 ≤ ref ∧ ref ≤ 9223372036854775807) (hn : s.cs.length ≤ 140737488355328) :
    Calls Try.prog 46 #[.pointer (some ⟨H.ib, 0, none⟩), .int .i64 ref] w fun e w' => e = .returned (.bool (isArr s ref)) ∧ Below w.heap.size w w' := by
  have HC := hid (class_any h ref hr hn)
  obtain ⟨o, ho⟩ : ∃ o, o = clsOf s ref := ⟨_, rfl⟩
  obtain ⟨r, hrr⟩ : ∃ r, r = isArr s ref := ⟨_, rfl⟩
  have HO : Hid (isArrO o = r) := (by rw [ho, hrr]; rfl)
  rw [← ho] at HC
  rw [← hrr]
  clear ho hrr h hn
  cases o with
  | none =>
    go_enter Try.func46, Try.ntmps46
    go_wp2_with (go_at_call 49; refine HC.out.mono ?_; rintro e w1 ⟨rfl, hb⟩)
    go_ret
    exact ⟨by rw [← HO.out]; rfl, hb⟩
  | some c =>
    by_cases hc : c = -1
    · subst hc
      go_enter Try.func46, Try.ntmps46
      go_wp2_with (go_at_call 49; refine HC.out.mono ?_; rintro e w1 ⟨rfl, hb⟩)
      go_ret
      exact ⟨by rw [← HO.out]; rfl, hb⟩
    · have hd : (c == -1) = false := by simpa using hc
      have HD := hid hc
      clear hc
      go_enter Try.func46, Try.ntmps46
      go_wp2_with (go_at_call 49; refine HC.out.mono ?_; rintro e w1 ⟨rfl, hb⟩)
      go_ret
      exact ⟨by rw [← HO.out]; simp [isObjO, isArrO, HD.out], hb⟩
end Go.Proofs.Ytkikdjphmnbmaaa
namespace Go.Proofs.Ytkikdjphmnbmaaa
open Go Go.RowKit

theorem Rep.setA {w w1 : World} {base : Nat} {H : HV} {s : Hp.St} (h : Rep w base H s) (hc : Chg (fun k => H.a.ownBlock = some k) w w1) {u : Value} {l : List Int} (ho : w1.ownsRow base 3 1 u l.length (iL l)) (hk : u.ownBlock = H.a.ownBlock ∨ ∃ k, w.heap.size ≤ k ∧ u.ownBlock = some k) :
    Went w (w1.setCell ⟨H.ib, 1, none⟩ u) base H { H with a := u } { s with cs := l } := by
  have hbx : w1.heap[H.hb]? = _ := (hc.block _ h.hb_lt (own_unlike_box h.oa h.box (by decide))).trans h.box
  have hix : w1.heap[H.ib]? = _ := (hc.block _ h.ib_lt (own_unlike_box h.oa h.ins (by decide))).trans h.ins
  have hn := h.ne
  have hS : Chg (fun k => k = H.ib) w1 (w1.setCell ⟨H.ib, 1, none⟩ u) := (Chg.refl (fun k => k = H.ib) w1).set (p := ⟨H.ib, 1, none⟩) (.inl rfl) u
  refine ⟨⟨(hS.block _ (Nat.lt_of_lt_of_le h.hb_lt hc.size) (by simpa using hn)).trans hbx, box_set hix _ _, owns_chg ho hS (fun k e e2 => own_unlike_box ho hix (by decide) (e2 ▸ e)), owns_chg (owns_chg h.ob hc (own_unlike h.ob h.oa (by decide))) hS (fun k e e2 => own_unlike_box h.ob h.ins (by decide) (e2 ▸ e)), owns_chg (owns_chg h.oc hc (fun k e e2 => h.ac k e2 e)) hS (fun k e e2 => own_unlike_box h.oc h.ins (by decide) (e2 ▸ e)), owns_chg (owns_chg h.od hc (own_unlike h.od h.oa (by decide))) hS (fun k e e2 => own_unlike_box h.od h.ins (by decide) (e2 ▸ e)), owns_chg (owns_chg h.oe hc (fun k e e2 => h.ae k e2 e)) hS (fun k e e2 => own_unlike_box h.oe h.ins (by decide) (e2 ▸ e)), ?_, ?_, ?_, h.lh, h.li⟩, ?_, rfl, rfl, ?_⟩
  · intro k e
    rcases hk with h1 | ⟨j, h1, h2⟩
    · exact h.ac k (h1.symm.trans e)
    · intro e2
      have := Kit.own_lt h.oc k e2
      rw [show u.ownBlock = some k from e] at h2
      have := Option.some.inj h2
      omega
  · intro k e
    rcases hk with h1 | ⟨j, h1, h2⟩
    · exact h.ae k (h1.symm.trans e)
    · intro e2
      have := Kit.own_lt h.oe k e2
      rw [show u.ownBlock = some k from e] at h2
      have := Option.some.inj h2
      omega
  · exact h.ce
  · exact (hc.mono (T := H.foot) (fun i _ e => .inr (.inr (.inl e)))).set (.inl (.inr (.inl rfl))) _
  · rintro k (rfl | rfl | e | e | e | e | e)
    · exact .inl (.inl rfl)
    · exact .inl (.inr (.inl rfl))
    · rcases hk with h1 | ⟨j, h1, h2⟩
      · exact .inl (.inr (.inr (.inl (h1.symm.trans e))))
      · right
        rw [show u.ownBlock = some k from e] at h2
        have := Option.some.inj h2
        omega
    · exact .inl (.inr (.inr (.inr (.inl e))))
    · exact .inl (.inr (.inr (.inr (.inr (.inl e)))))
    · exact .inl (.inr (.inr (.inr (.inr (.inr (.inl e))))))
    · exact .inl (.inr (.inr (.inr (.inr (.inr (.inr e))))))
theorem Rep.setB {w w1 : World} {base : Nat} {H : HV} {s : Hp.St} (h : Rep w base H s) (hc : Chg (fun k => H.b.ownBlock = some k) w w1) {u : Value} {l : List Hp.Ty} (ho : w1.ownsRow base 33 2 u l.length (l.flatMap tL)) (hk : u.ownBlock = H.b.ownBlock ∨ ∃ k, w.heap.size ≤ k ∧ u.ownBlock = some k) :
    Went w (w1.setCell ⟨H.ib, 2, none⟩ u) base H { H with b := u } { s with tc := l } := by
  have hbx : w1.heap[H.hb]? = _ := (hc.block _ h.hb_lt (own_unlike_box h.ob h.box (by decide))).trans h.box
  have hix : w1.heap[H.ib]? = _ := (hc.block _ h.ib_lt (own_unlike_box h.ob h.ins (by decide))).trans h.ins
  have hn := h.ne
  have hS : Chg (fun k => k = H.ib) w1 (w1.setCell ⟨H.ib, 2, none⟩ u) := (Chg.refl (fun k => k = H.ib) w1).set (p := ⟨H.ib, 2, none⟩) (.inl rfl) u
  refine ⟨⟨(hS.block _ (Nat.lt_of_lt_of_le h.hb_lt hc.size) (by simpa using hn)).trans hbx, box_set hix _ _, owns_chg (owns_chg h.oa hc (own_unlike h.oa h.ob (by decide))) hS (fun k e e2 => own_unlike_box h.oa h.ins (by decide) (e2 ▸ e)), owns_chg ho hS (fun k e e2 => own_unlike_box ho hix (by decide) (e2 ▸ e)), owns_chg (owns_chg h.oc hc (own_unlike h.oc h.ob (by decide))) hS (fun k e e2 => own_unlike_box h.oc h.ins (by decide) (e2 ▸ e)), owns_chg (owns_chg h.od hc (own_unlike h.od h.ob (by decide))) hS (fun k e e2 => own_unlike_box h.od h.ins (by decide) (e2 ▸ e)), owns_chg (owns_chg h.oe hc (own_unlike h.oe h.ob (by decide))) hS (fun k e e2 => own_unlike_box h.oe h.ins (by decide) (e2 ▸ e)), ?_, ?_, ?_, h.lh, h.li⟩, ?_, rfl, rfl, ?_⟩
  · exact h.ac
  · exact h.ae
  · exact h.ce
  · exact (hc.mono (T := H.foot) (fun i _ e => .inr (.inr (.inr (.inl e))))).set (.inl (.inr (.inl rfl))) _
  · rintro k (rfl | rfl | e | e | e | e | e)
    · exact .inl (.inl rfl)
    · exact .inl (.inr (.inl rfl))
    · exact .inl (.inr (.inr (.inl e)))
    · rcases hk with h1 | ⟨j, h1, h2⟩
      · exact .inl (.inr (.inr (.inr (.inl (h1.symm.trans e)))))
      · right
        rw [show u.ownBlock = some k from e] at h2
        have := Option.some.inj h2
        omega
    · exact .inl (.inr (.inr (.inr (.inr (.inl e)))))
    · exact .inl (.inr (.inr (.inr (.inr (.inr (.inl e))))))
    · exact .inl (.inr (.inr (.inr (.inr (.inr (.inr e))))))
theorem Rep.setC {w w1 : World} {base : Nat} {H : HV} {s : Hp.St} (h : Rep w base H s) (hc : Chg (fun k => H.c.ownBlock = some k) w w1) {u : Value} {l : List Nat} (ho : w1.ownsRow base 3 1 u l.length (Kit.natVals l)) (hk : u.ownBlock = H.c.ownBlock ∨ ∃ k, w.heap.size ≤ k ∧ u.ownBlock = some k) :
    Went w (w1.setCell ⟨H.ib, 3, none⟩ u) base H { H with c := u } { s with te := l } := by
  have hbx : w1.heap[H.hb]? = _ := (hc.block _ h.hb_lt (own_unlike_box h.oc h.box (by decide))).trans h.box
  have hix : w1.heap[H.ib]? = _ := (hc.block _ h.ib_lt (own_unlike_box h.oc h.ins (by decide))).trans h.ins
  have hn := h.ne
  have hS : Chg (fun k => k = H.ib) w1 (w1.setCell ⟨H.ib, 3, none⟩ u) := (Chg.refl (fun k => k = H.ib) w1).set (p := ⟨H.ib, 3, none⟩) (.inl rfl) u
  refine ⟨⟨(hS.block _ (Nat.lt_of_lt_of_le h.hb_lt hc.size) (by simpa using hn)).trans hbx, box_set hix _ _, owns_chg (owns_chg h.oa hc (fun k e => h.ac k e)) hS (fun k e e2 => own_unlike_box h.oa h.ins (by decide) (e2 ▸ e)), owns_chg (owns_chg h.ob hc (own_unlike h.ob h.oc (by decide))) hS (fun k e e2 => own_unlike_box h.ob h.ins (by decide) (e2 ▸ e)), owns_chg ho hS (fun k e e2 => own_unlike_box ho hix (by decide) (e2 ▸ e)), owns_chg (owns_chg h.od hc (own_unlike h.od h.oc (by decide))) hS (fun k e e2 => own_unlike_box h.od h.ins (by decide) (e2 ▸ e)), owns_chg (owns_chg h.oe hc (fun k e e2 => h.ce k e2 e)) hS (fun k e e2 => own_unlike_box h.oe h.ins (by decide) (e2 ▸ e)), ?_, ?_, ?_, h.lh, h.li⟩, ?_, rfl, rfl, ?_⟩
  · intro k e e2
    rcases hk with h1 | ⟨j, h1, h2⟩
    · exact h.ac k e (h1.symm.trans e2)
    · have := Kit.own_lt h.oa k e
      rw [show u.ownBlock = some k from e2] at h2
      have := Option.some.inj h2
      omega
  · exact h.ae
  · intro k e
    rcases hk with h1 | ⟨j, h1, h2⟩
    · exact h.ce k (h1.symm.trans e)
    · intro e2
      have := Kit.own_lt h.oe k e2
      rw [show u.ownBlock = some k from e] at h2
      have := Option.some.inj h2
      omega
  · exact (hc.mono (T := H.foot) (fun i _ e => .inr (.inr (.inr (.inr (.inl e)))))).set (.inl (.inr (.inl rfl))) _
  · rintro k (rfl | rfl | e | e | e | e | e)
    · exact .inl (.inl rfl)
    · exact .inl (.inr (.inl rfl))
    · exact .inl (.inr (.inr (.inl e)))
    · exact .inl (.inr (.inr (.inr (.inl e))))
    · rcases hk with h1 | ⟨j, h1, h2⟩
      · exact .inl (.inr (.inr (.inr (.inr (.inl (h1.symm.trans e))))))
      · right
        rw [show u.ownBlock = some k from e] at h2
        have := Option.some.inj h2
        omega
    · exact .inl (.inr (.inr (.inr (.inr (.inr (.inl e))))))
    · exact .inl (.inr (.inr (.inr (.inr (.inr (.inr e))))))
theorem Rep.setD {w w1 : World} {base : Nat} {H : HV} {s : Hp.St} (h : Rep w base H s) (hc : Chg (fun k => H.d.ownBlock = some k) w w1) {u : Value} {l : List Hp.Vl} (ho : w1.ownsRow base 35 2 u l.length (l.flatMap vL)) (hk : u.ownBlock = H.d.ownBlock ∨ ∃ k, w.heap.size ≤ k ∧ u.ownBlock = some k) :
    Went w (w1.setCell ⟨H.ib, 4, none⟩ u) base H { H with d := u } { s with vc := l } := by
  have hbx : w1.heap[H.hb]? = _ := (hc.block _ h.hb_lt (own_unlike_box h.od h.box (by decide))).trans h.box
  have hix : w1.heap[H.ib]? = _ := (hc.block _ h.ib_lt (own_unlike_box h.od h.ins (by decide))).trans h.ins
  have hn := h.ne
  have hS : Chg (fun k => k = H.ib) w1 (w1.setCell ⟨H.ib, 4, none⟩ u) := (Chg.refl (fun k => k = H.ib) w1).set (p := ⟨H.ib, 4, none⟩) (.inl rfl) u
  refine ⟨⟨(hS.block _ (Nat.lt_of_lt_of_le h.hb_lt hc.size) (by simpa using hn)).trans hbx, box_set hix _ _, owns_chg (owns_chg h.oa hc (own_unlike h.oa h.od (by decide))) hS (fun k e e2 => own_unlike_box h.oa h.ins (by decide) (e2 ▸ e)), owns_chg (owns_chg h.ob hc (own_unlike h.ob h.od (by decide))) hS (fun k e e2 => own_unlike_box h.ob h.ins (by decide) (e2 ▸ e)), owns_chg (owns_chg h.oc hc (own_unlike h.oc h.od (by decide))) hS (fun k e e2 => own_unlike_box h.oc h.ins (by decide) (e2 ▸ e)), owns_chg ho hS (fun k e e2 => own_unlike_box ho hix (by decide) (e2 ▸ e)), owns_chg (owns_chg h.oe hc (own_unlike h.oe h.od (by decide))) hS (fun k e e2 => own_unlike_box h.oe h.ins (by decide) (e2 ▸ e)), ?_, ?_, ?_, h.lh, h.li⟩, ?_, rfl, rfl, ?_⟩
  · exact h.ac
  · exact h.ae
  · exact h.ce
  · exact (hc.mono (T := H.foot) (fun i _ e => .inr (.inr (.inr (.inr (.inr (.inl e))))))).set (.inl (.inr (.inl rfl))) _
  · rintro k (rfl | rfl | e | e | e | e | e)
    · exact .inl (.inl rfl)
    · exact .inl (.inr (.inl rfl))
    · exact .inl (.inr (.inr (.inl e)))
    · exact .inl (.inr (.inr (.inr (.inl e))))
    · exact .inl (.inr (.inr (.inr (.inr (.inl e)))))
    · rcases hk with h1 | ⟨j, h1, h2⟩
      · exact .inl (.inr (.inr (.inr (.inr (.inr (.inl (h1.symm.trans e)))))))
      · right
        rw [show u.ownBlock = some k from e] at h2
        have := Option.some.inj h2
        omega
    · exact .inl (.inr (.inr (.inr (.inr (.inr (.inr e))))))
theorem Rep.setE {w w1 : World} {base : Nat} {H : HV} {s : Hp.St} (h : Rep w base H s) (hc : Chg (fun k => H.e.ownBlock = some k) w w1) {u : Value} {l : List Nat} (ho : w1.ownsRow base 3 1 u l.length (Kit.natVals l)) (hk : u.ownBlock = H.e.ownBlock ∨ ∃ k, w.heap.size ≤ k ∧ u.ownBlock = some k) :
    Went w (w1.setCell ⟨H.ib, 5, none⟩ u) base H { H with e := u } { s with ve := l } := by
  have hbx : w1.heap[H.hb]? = _ := (hc.block _ h.hb_lt (own_unlike_box h.oe h.box (by decide))).trans h.box
  have hix : w1.heap[H.ib]? = _ := (hc.block _ h.ib_lt (own_unlike_box h.oe h.ins (by decide))).trans h.ins
  have hn := h.ne
  have hS : Chg (fun k => k = H.ib) w1 (w1.setCell ⟨H.ib, 5, none⟩ u) := (Chg.refl (fun k => k = H.ib) w1).set (p := ⟨H.ib, 5, none⟩) (.inl rfl) u
  refine ⟨⟨(hS.block _ (Nat.lt_of_lt_of_le h.hb_lt hc.size) (by simpa using hn)).trans hbx, box_set hix _ _, owns_chg (owns_chg h.oa hc (fun k e => h.ae k e)) hS (fun k e e2 => own_unlike_box h.oa h.ins (by decide) (e2 ▸ e)), owns_chg (owns_chg h.ob hc (own_unlike h.ob h.oe (by decide))) hS (fun k e e2 => own_unlike_box h.ob h.ins (by decide) (e2 ▸ e)), owns_chg (owns_chg h.oc hc (fun k e => h.ce k e)) hS (fun k e e2 => own_unlike_box h.oc h.ins (by decide) (e2 ▸ e)), owns_chg (owns_chg h.od hc (own_unlike h.od h.oe (by decide))) hS (fun k e e2 => own_unlike_box h.od h.ins (by decide) (e2 ▸ e)), owns_chg ho hS (fun k e e2 => own_unlike_box ho hix (by decide) (e2 ▸ e)), ?_, ?_, ?_, h.lh, h.li⟩, ?_, rfl, rfl, ?_⟩
  · exact h.ac
  · intro k e e2
    rcases hk with h1 | ⟨j, h1, h2⟩
    · exact h.ae k e (h1.symm.trans e2)
    · have := Kit.own_lt h.oa k e
      rw [show u.ownBlock = some k from e2] at h2
      have := Option.some.inj h2
      omega
  · intro k e e2
    rcases hk with h1 | ⟨j, h1, h2⟩
    · exact h.ce k e (h1.symm.trans e2)
    · have := Kit.own_lt h.oc k e
      rw [show u.ownBlock = some k from e2] at h2
      have := Option.some.inj h2
      omega
  · exact (hc.mono (T := H.foot) (fun i _ e => .inr (.inr (.inr (.inr (.inr (.inr e))))))).set (.inl (.inr (.inl rfl))) _
  · rintro k (rfl | rfl | e | e | e | e | e)
    · exact .inl (.inl rfl)
    · exact .inl (.inr (.inl rfl))
    · exact .inl (.inr (.inr (.inl e)))
    · exact .inl (.inr (.inr (.inr (.inl e))))
    · exact .inl (.inr (.inr (.inr (.inr (.inl e)))))
    · exact .inl (.inr (.inr (.inr (.inr (.inr (.inl e))))))
    · rcases hk with h1 | ⟨j, h1, h2⟩
      · exact .inl (.inr (.inr (.inr (.inr (.inr (.inr (h1.symm.trans e)))))))
      · right
        rw [show u.ownBlock = some k from e] at h2
        have := Option.some.inj h2
        omega
end Go.Proofs.Ytkikdjphmnbmaaa
namespace Go.Proofs.Ytkikdjphmnbmaaa.Kit
open Go Go.RowKit

theorem firstCells_own {P : Program} {w : World} {g n cap s : Nat} {xs : List Value} (hl : xs.length = n * s) (h : ∀ j u, xs[j]? = some u → w.cell? ((⟨g, 0, none⟩ : Addr).add j) = some u) :
    (Builtin.firstCells s n (.slice (some ⟨g, 0, none⟩) n cap)).run P w = .ok xs.toArray w := run_firstCells_some (P := P) w s n ⟨g, 0, none⟩ n cap xs hl h
theorem run_zeros_own {P : Program} (w : World) (base : Nat) (t tn ty e : TypeId) (i : TypeInfo) (z : Value) (kn : IntKind) (size bytes : Nat) (ht : P.underlying t = some (.slice e)) (htn : P.underlying tn = some (.int kn)) (hi : P.info? e = some i) (hz : i.zero = some z)
    (hsize : i.size = size) (hby : i.bytes = bytes) (hzs : z.cells.size = size) (hz1 : ∀ u ∈ z.cells.toList, u.oneCell' = true) (hsz : 0 < size)
    (v : Value) (n : Nat) (xs : List Value) (hown : w.ownsRow base e size v n xs) (k : Nat) (h63 : n + k ≤ maxLen) (hbytes : (n + k) * bytes ≤ 140737488355328) (hbase : base ≤ w.heap.size) :
    ∃ v' w', (Builtin.append_ #[t, tn] ty #[v, .int .i64 (k : Int)]).run P w = .ok v' w' ∧ w'.ownsRow base e size v' (n + k) (xs ++ (Builtin.zeroCells z.cells k).toList) ∧ w.grownBy w' v.ownBlock ∧ (v'.ownBlock = v.ownBlock ∨ v'.ownBlock = some w.heap.size) := by
  subst hsize
  subst hby
  have hzl : (Builtin.zeroCells z.cells k).toList.length = k * i.size := by rw [Array.length_toList, size_zeroCells, hzs]
  have hlen : (xs ++ (Builtin.zeroCells z.cells k).toList).length = (n + k) * i.size := by rw [List.length_append, hown.1, hzl, Nat.add_mul]
  have hkb : k * i.bytes ≤ 140737488355328 := Nat.le_trans (Nat.mul_le_mul_right _ (Nat.le_add_left k n)) hbytes
  have hm63 : n + k ≤ 9223372036854775807 := by simp only [maxLen] at h63; omega
  have hw : IntKind.i64.wrap (k : Int) = k := by rw [IntKind.wrap_i64]; omega
  have hneg : ¬ ((k : Int) < 0) := by omega
  have h48i : ¬ (281474976710656 < (k : Int) * (i.bytes : Int)) := by rw [← Int.natCast_mul]; omega
  have h1z : ∀ u ∈ (Builtin.zeroCells z.cells k).toList, u.oneCell' = true := by
    intro u hu
    simp only [Builtin.zeroCells, Array.toList_map, List.mem_map, Array.toList_range, List.mem_range] at hu
    obtain ⟨j, hj, rfl⟩ := hu
    have hlt : j % z.cells.size < z.cells.size := Nat.mod_lt _ (by rw [hzs]; exact hsz)
    rw [getElem!_pos z.cells _ hlt]
    exact hz1 _ (by simp)
  have grown : ∀ (olds : List Value) (old : Nat), olds = xs → old < n + k → ∀ (row : Option Nat),
      (w.drew.alloc (.cells (olds.toArray ++ Builtin.zeroCells z.cells k ++ Builtin.zeroCells z.cells (grownCap w (n + k) old e - (n + k))) e)).ownsRow base e i.size
        (.slice (some ⟨w.heap.size, 0, none⟩) (n + k) (grownCap w (n + k) old e)) (n + k) (xs ++ (Builtin.zeroCells z.cells k).toList) ∧
      w.grownBy (w.drew.alloc (.cells (olds.toArray ++ Builtin.zeroCells z.cells k ++ Builtin.zeroCells z.cells (grownCap w (n + k) old e - (n + k))) e)) row := by
    intro olds old ho hlt row
    subst ho
    have hge := grownCap_ge w (n + k) old e
    have hcm : grownCap w (n + k) old e ≤ maxLen := grownCap_le_maxLen w (n + k) old e h63
    refine ⟨⟨hlen, .inr ⟨w.heap.size, _, _, rfl, hbase, heap_alloc_new w.drew _, hge, hcm, ?_, ?_⟩⟩, ⟨rfl, rfl, rfl, by simp, fun k hk _ => Below.heap_alloc w.drew _ k hk⟩⟩
    · simp only [Array.size_append, List.size_toArray, size_zeroCells, hzs, hown.1, ← Nat.add_mul]
      congr 1
      omega
    · simp only [Array.toList_append]
      rw [← hlen]
      exact List.take_left
  by_cases hk : k = 0
  · subst hk
    have hw0 : IntKind.i64.wrap 0 = 0 := by rw [IntKind.wrap_i64]; omega
    have hzn : (Builtin.zeroCells z.cells 0).toList = [] := by simp [Builtin.zeroCells]
    have hzn' : Builtin.zeroCells z.cells 0 = #[] := by simp [Builtin.zeroCells]
    rcases hown.2 with ⟨rfl, rfl⟩ | ⟨g, cap, cur, rfl, hbg, hg, hnc, hcm, hcs, htake⟩
    · refine ⟨.slice none 0 0, w, ?_, by rw [hzn, List.append_nil]; exact hown, ⟨rfl, rfl, rfl, Nat.le_refl _, fun _ _ _ => rfl⟩, .inl rfl⟩
      simp [Builtin.append_, run_underlying ht, run_underlying htn, sizeOf, typeInfo, zeroValue, hi, hz, asInt, asIntOf, hw0]
    · refine ⟨.slice (some ⟨g, 0, none⟩) n cap, w, ?_, by rw [hzn, List.append_nil]; exact hown, ⟨rfl, rfl, rfl, Nat.le_refl _, fun _ _ _ => rfl⟩, .inl rfl⟩
      simp [Builtin.append_, run_underlying ht, run_underlying htn, sizeOf, typeInfo, zeroValue, hi, hz, asInt, asIntOf, hw0, hnc, storeCells]
  · rcases hown.2 with ⟨rfl, rfl⟩ | ⟨g, cap, cur, rfl, hbg, hg, hnc, hcm, hcs, htake⟩
    · have hx : xs = [] := List.eq_nil_of_length_eq_zero (by simpa using hown.1)
      subst hx
      have hr := Lib.run_append_nil_zeros (P := P) w t tn ty e i z .i64 kn ht htn hi hz k (by omega) hsz (by omega) (by omega)
      have hgr := grown [] 0 rfl (by omega) (Value.ownBlock (.slice none 0 0))
      simp only [Nat.zero_add, List.nil_append, Array.empty_append] at hgr ⊢
      exact ⟨_, _, hr, hgr.1, hgr.2, .inr rfl⟩
    · by_cases hroom : n + k ≤ cap
      · have hfit : n * i.size + (Builtin.zeroCells z.cells k).toList.length ≤ cur.size := by rw [hzl, hcs, ← Nat.add_mul]; exact Nat.mul_le_mul_right _ hroom
        have hst := run_storeCells_at P g (n * i.size) e (Builtin.zeroCells z.cells k).toList 0 cur w hg (by simpa using hfit) h1z
        simp only [Nat.add_zero] at hst
        have hns : ¬ (k * i.size = 0) := Nat.mul_ne_zero hk (by omega)
        have hr : (Builtin.append_ #[t, tn] ty #[.slice (some ⟨g, 0, none⟩) n cap, .int .i64 (k : Int)]).run P w =
            .ok (.slice (some ⟨g, 0, none⟩) (n + k) cap) (w.setRow g (cur.toList.take (n * i.size) ++ (Builtin.zeroCells z.cells k).toList ++ cur.toList.drop (n * i.size + (Builtin.zeroCells z.cells k).toList.length)).toArray) := by
          simp [Builtin.append_, run_underlying ht, run_underlying htn, sizeOf, typeInfo, zeroValue, hi, hz, asInt, asIntOf, hw, hneg, h48i, hns, hroom, Addr.add_lit, hst]
        refine ⟨_, _, hr, ⟨hlen, .inr ⟨g, cap, _, rfl, hbg, setRow_heap w g cur _ e _ hg, hroom, hcm, ?_, ?_⟩⟩, ⟨rfl, rfl, rfl, by simp, fun k _ hk => setRow_other w g k _ (fun e => hk (by simp [Value.ownBlock, e]))⟩, .inl rfl⟩
        · simp only [List.size_toArray, List.length_append, List.length_take, List.length_drop, Array.length_toList]
          rw [Array.length_toList] at hfit
          omega
        · rw [htake, ← hlen]
          exact List.take_left
      · have holds : ∀ j u, xs[j]? = some u → w.cell? ((⟨g, 0, none⟩ : Addr).add j) = some u := hown.cells (g := g) rfl
        have hr := Lib.run_append_grow_zeros (P := P) w t tn ty e i z .i64 kn ht htn hi hz (some ⟨g, 0, none⟩) n cap xs (firstCells_own (w := w.drew) hown.1 holds) k (by omega) hsz (by omega) (by omega) (by omega) (growslice_fits (by omega) hbytes)
        have hgr := grown xs cap rfl (by omega) (Value.ownBlock (.slice (some ⟨g, 0, none⟩) n cap))
        exact ⟨_, _, hr, hgr.1, hgr.2, .inr rfl⟩
theorem wpList_zeros_own {P : Program} {w : World} {ops : Array Oper} {rest : List Oper} {o : Oper} {a : Act} {Q : Exit → Act → World → Prop} (hgd : o.guard = none) (s x : Operand) (t tn : TypeId)
    (ho : o.op = .call { callee := .builtin .append, args := #[s, x], argTypes := #[t, tn] })
    (base : Nat) (e : TypeId) (i : TypeInfo) (z : Value) (kn : IntKind) (size bytes : Nat) (ht : P.underlying t = some (.slice e)) (htn : P.underlying tn = some (.int kn)) (hi : P.info? e = some i) (hz : i.zero = some z)
    (hsize : i.size = size) (hby : i.bytes = bytes) (hzs : z.cells.size = size) (hz1 : ∀ u ∈ z.cells.toList, u.oneCell' = true) (hsz : 0 < size)
    (v : Value) (n : Nat) (xs : List Value) (hs : a.eval s = v) (hown : w.ownsRow base e size v n xs) (k : Nat) (hx : a.eval x = .int .i64 (k : Int)) (h63 : n + k ≤ maxLen) (hbytes : (n + k) * bytes ≤ 140737488355328) (hbase : base ≤ w.heap.size)
    (h : ∀ v' w', w'.ownsRow base e size v' (n + k) (xs ++ (Builtin.zeroCells z.cells k).toList) → w.grownBy w' v.ownBlock → (v'.ownBlock = v.ownBlock ∨ v'.ownBlock = some w.heap.size) → wpList P ops Q rest (a.put o.dst v') w') :
    wpList P ops Q (o :: rest) a w := by
  refine wpList_plain hgd fun K hK => ?_
  obtain ⟨v', w', hr, h2, h3, h4⟩ := run_zeros_own (P := P) w base t tn o.type e i z kn size bytes ht htn hi hz hsize hby hzs hz1 hsz v n xs hown k h63 hbytes hbase
  unfold Oper.wp execOp
  simp only [ho, resolve, invoke, builtin, Sem.run_bind, Sem.run_pure, Result.andThen_ok, List.map_toArray, List.map_cons, List.map_nil, hs, hx, hr]
  exact hK _ _ (h v' w' h2 h3 h4)
/-- Zeros of two cells. -/
theorem zeros_two (a b : Value) (k : Nat) : (Builtin.zeroCells #[a, b] k).toList = (List.replicate k [a, b]).flatten := by
  induction k with
  | zero => simp [Builtin.zeroCells]
  | succ k ih =>
    have h : (Builtin.zeroCells #[a, b] (k + 1)).toList = (Builtin.zeroCells #[a, b] k).toList ++ [a, b] := by
      simp only [Builtin.zeroCells, Array.toList_map, Array.toList_range]
      rw [show (k + 1) * (#[a, b] : Array Value).size = k * (#[a, b] : Array Value).size + 1 + 1 by simp; omega, List.range_succ, List.range_succ]
      simp
    rw [h, ih, List.replicate_succ', List.flatten_append]
    simp
end Go.Proofs.Ytkikdjphmnbmaaa.Kit
namespace Go.Proofs.Ytkikdjphmnbmaaa
open Go Go.RowKit Go.Lib

theorem infoI : (Try.prog.info? 3).map (fun i => (i.zero, i.size, i.bytes)) = some (some (.int .i64 0), 1, 8) := by kernel_rfl
/-- A piece of a row. -/
def Sub (r : Value) (size from' k : Nat) (v : Value) : Prop := ∃ a c, v = .slice a k c ∧ k ≤ c ∧ (0 < k → ∃ g, r.ownBlock = some g ∧ a = some ⟨g, from' * size, none⟩)
theorem own_caps {w : World} {base : Nat} {e : TypeId} {size n n' cap : Nat} {a : Option Addr} {xs : List Value} (h : w.ownsRow base e size (.slice a n cap) n' xs) : n = n' ∧ n ≤ cap := by
  rcases h.2 with ⟨h1, rfl⟩ | ⟨g, cap', cur, h1, -, -, h2, -⟩
  · obtain ⟨-, rfl, rfl⟩ := Value.slice.inj h1
    exact ⟨rfl, Nat.le_refl _⟩
  · obtain ⟨-, rfl, rfl⟩ := Value.slice.inj h1
    exact ⟨rfl, h2⟩
theorem endsSnoc {w : World} {base : Nat} {v : Value} {l : List Nat} {a b : Nat} (h : w.ownsRow base 3 1 v (l.length + 1) (Kit.natVals l ++ [.int .i64 ((a : Int) + (b : Int))])) : w.ownsRow base 3 1 v (l ++ [a + b]).length (Kit.natVals (l ++ [a + b])) := by
  rw [Kit.natVals_snoc, List.length_append]
  have e : ((a + b : Nat) : Int) = (a : Int) + (b : Int) := by omega
  rw [e]
  exact h
theorem onesT : ∀ u ∈ (Value.agg #[.int .i64 0, .string ⟨#[]⟩]).cells.toList, u.oneCell' = true := by decide +kernel
theorem onesV : ∀ u ∈ (Value.agg #[.int .i64 0, .int .i64 0]).cells.toList, u.oneCell' = true := by decide +kernel

theorem infoT : (Try.prog.info? 33).map (fun i => (i.zero, i.size, i.bytes)) = some (some (.agg #[.int .i64 0, .string ⟨#[]⟩]), 2, 24) := by kernel_rfl
theorem zerosT {w : World} {base : Nat} {v : Value} {l : List Hp.Ty} {k : Nat} (h : w.ownsRow base 33 2 v (l.length + k) (l.flatMap tL ++ (Builtin.zeroCells (Value.agg #[.int .i64 0, .string ⟨#[]⟩]).cells k).toList)) :
    w.ownsRow base 33 2 v (l ++ List.replicate k Hp.T0).length ((l ++ List.replicate k Hp.T0).flatMap tL) := by
  have e : (List.replicate k Hp.T0).flatMap tL = (Builtin.zeroCells (Value.agg #[.int .i64 0, .string ⟨#[]⟩]).cells k).toList := by
    rw [show (Value.agg #[.int .i64 0, .string ⟨#[]⟩]).cells = #[.int .i64 0, .string ⟨#[]⟩] from rfl, Kit.zeros_two, List.flatMap_def, List.map_replicate]
    rfl
  rw [List.length_append, List.length_replicate, List.flatMap_append, e]
  exact h
def AddT (base : Nat) (H : HV) (s : Hp.St) (k : Nat) (w : World) (e : Ending) (w' : World) : Prop :=
  ∃ H' v, e = .returned v ∧ Went w w' base H H' { s with tc := s.tc ++ List.replicate k Hp.T0, te := s.te ++ [s.tc.length + k] } ∧ Sub H'.b 2 s.tc.length k v
set_option maxRecDepth 100000 in
set_option maxHeartbeats 1000000 in
theorem addT_any {w : World} {base : Nat} {H : HV} {s : Hp.St} (h : Rep w base H s) (k : Nat) (hn : s.tc.length + k ≤ 1073741824) (hm : s.te.length ≤ 1073741824) :
    Calls Try.prog 57 #[.pointer (some ⟨H.ib, 2, none⟩), .int .i64 (k : Int)] w (AddT base H s k w) := by
  obtain ⟨i0, hi, hz0, hz1, hz2⟩ := info_parts infoT
  obtain ⟨i9, hi9, hz09, hz19, hz29⟩ := info_parts infoI
  unfold AddT
  obtain ⟨hb, ib, va, vb, vc, vd, ve⟩ := H; obtain ⟨lim, cs, tc, te, vs, vn⟩ := s; have e1 := own_form h.oa; have e2 := own_form h.ob; have e3 := own_form h.oc; have e4 := own_form h.od; have e5 := own_form h.oe; dsimp only at *; obtain ⟨ua, pa, rfl⟩ := e1; obtain ⟨ub, pb, rfl⟩ := e2; obtain ⟨uc, pc, rfl⟩ := e3; obtain ⟨ud, pd, rfl⟩ := e4; obtain ⟨ue, pe, rfl⟩ := e5; have hcl := h.cells; have hgen := h.hb_lt; have hgen2 := h.ib_lt; have hgen3 := h.li; dsimp only at hcl hgen hgen2 hgen3; obtain ⟨k0, k1, k2, k3, k4, k5, k6⟩ := hcl; have HR := hid h; clear h
  go_enter Try.func57, Try.ntmps57
  go_wp2_with (at_builtin; refine Kit.wpList_zeros_own rfl (.tmp 15) (.tmp 16) 31 3 rfl base 33 i0 _ .i64 2 24 Try.underlying31 Try.underlying3 hi hz0 hz1 hz2 rfl onesT (by decide) _ tc.length (tc.flatMap tL) rfl HR.out.ob k rfl (by unfold maxLen; omega) (by omega) (by omega) ?_; intro v1 w1 ho1 hg1 hk1; have hc1 := Chg.of_grown (S := fun i => (Value.slice ub tc.length pb).ownBlock = some i) hg1 (fun _ e => e); have WT := hid (HR.out.setB hc1 (zerosT ho1) (hk1.imp_right (fun e => ⟨_, Nat.le_refl _, e⟩))); have g1 := (hc1.block _ HR.out.ib_lt (own_unlike_box HR.out.ob HR.out.ins (by decide))).trans HR.out.ins; dsimp only at g1; have c1 : w1.cell? ⟨ib, 2, none⟩ = some (.slice ub tc.length pb) := (by simp [World.cell?, g1]); have y1 : w1.frozen? ⟨ib, 2, none⟩ = false := (by simp [World.frozen?, g1]); obtain ⟨b1, q1, rfl⟩ := own_form ho1; have HC1 := hid hc1.size; clear ho1 hg1 hk1 hc1 g1)
  obtain ⟨W, hW⟩ : ∃ W, W = w1.setCell ⟨ib, 2, none⟩ (.slice b1 (tc.length + k) q1) := ⟨_, rfl⟩
  rw [← hW] at WT ⊢
  have HWs : Hid (w.heap.size ≤ W.heap.size) := (by rw [hW]; show w.heap.size ≤ _; simpa [World.setCell] using HC1.out)
  clear hW c1 y1
  obtain ⟨x0, x1, x2, x3, x4, x5, x6⟩ := WT.out.rep.cells
  have xf3 := WT.out.rep.frozen 3
  dsimp only at x0 x1 x2 x3 x4 x5 x6 xf3
  have hbW := WT.out.rep.base_lt
  have hiW := WT.out.rep.ib_lt
  dsimp only at hiW
  have HOc := hid (fun X (k : Below W.heap.size W X) => Kit.owns_below WT.out.rep.oc k (Nat.le_refl _))
  go_region_law (refine Kit.step_append_own rfl (.tmp 24) (.tmp 30) 72 rfl base 3 i9 _ 1 8 Try.underlying72 hi9 hz09 hz19 hz29 rfl (by decide) _ te.length (Kit.natVals te) rfl (HOc.out _ (by repeat' first | with_reducible exact Below.refl _ _ | with_reducible assumption | with_reducible refine belows_drewN ?_ _ | with_reducible refine Below.drew ?_ | with_reducible refine Below.setCell ?_ ?_ _ | with_reducible refine Below.alloc ?_ ?_ _ | omega | (simp; done) | (simp; omega))) ⟨W.heap.size, 0, none⟩ 1 1 [.int .i64 ((tc.length : Int) + (k : Int))] rfl rfl (by intro j u hj; exact Kit.news_one W _ 3 j u hj) (Kit.ones_one rfl) (by unfold maxLen; omega) (by omega) (by first | omega | (simp; omega)) ?_; intro v2 w2 ho2 hg2 hk2; have hc2 := (Chg.of_below (S := fun i => (Value.slice uc te.length pc).ownBlock = some i) (w := W) (by repeat' first | with_reducible exact Below.refl _ _ | with_reducible assumption | with_reducible refine belows_drewN ?_ _ | with_reducible refine Below.drew ?_ | with_reducible refine Below.setCell ?_ ?_ _ | with_reducible refine Below.alloc ?_ ?_ _ | omega | (simp; done) | (simp; omega))).grown hg2 (fun _ e => .inl e); have WT2 := hid (WT.out.rep.setC hc2 (endsSnoc ho2) (hk2.imp_right (fun e => ⟨_, (by first | omega | (simp; done) | (simp; omega)), e⟩))); have g2 := (hc2.block _ WT.out.rep.ib_lt (own_unlike_box WT.out.rep.oc WT.out.rep.ins (by decide))).trans WT.out.rep.ins; dsimp only at g2; have c2 : w2.cell? ⟨ib, 3, none⟩ = some (.slice uc te.length pc) := (by simp [World.cell?, g2]); have y2 : w2.frozen? ⟨ib, 3, none⟩ = false := (by simp [World.frozen?, g2]); obtain ⟨b2, q2, rfl⟩ := own_form ho2; clear ho2 hg2 hk2 hc2 g2)
  all_goals
    obtain ⟨X, hX⟩ : ∃ X, X = w2.setCell ⟨ib, 3, none⟩ (.slice b2 (te.length + 1) q2) := ⟨_, rfl⟩
    rw [← hX] at WT2 ⊢
    clear hX c2 y2 x0 x1 x2 x3 x4 x5 x6 xf3
    obtain ⟨x0, x1, x2, x3, x4, x5, x6⟩ := WT2.out.rep.cells
    dsimp only at x0 x1 x2 x3 x4 x5 x6
    have cb := (own_caps WT2.out.rep.ob).2
    have HW := hid (WT.out.trans WT2.out)
    by_cases hq : tc.length = q1
    · have hk0 : k ≤ 0 := by omega
      subst hq
      go_wp2
      go_ret
      obtain rfl : k = 0 := by omega
      exact ⟨_, _, rfl, HW.out, _, _, rfl, Nat.zero_le _, fun h => absurd h (by omega)⟩
    · have hq2 : ¬ (q1 - tc.length = 0) := by omega
      clear hq
      have hb1 : 0 < k → ∃ g, b1 = some ⟨g, 0, none⟩ := fun hk => by
        obtain ⟨g, cap, h1, -⟩ := own_cell WT2.out.rep.ob (by rw [List.length_append, List.length_replicate]; omega)
        exact ⟨g, (Value.slice.inj h1).1⟩
      have HB1 := hid hb1
      clear hb1
      go_wp2
      go_ret
      refine ⟨_, _, rfl, HW.out, _, _, rfl, by omega, fun hk => ?_⟩
      obtain ⟨g, rfl⟩ := HB1.out hk
      exact ⟨g, rfl, by simp [Addr.add]; omega⟩
end Go.Proofs.Ytkikdjphmnbmaaa
namespace Go.Proofs.Ytkikdjphmnbmaaa
open Go Go.RowKit

theorem infoV : (Try.prog.info? 35).map (fun i => (i.zero, i.size, i.bytes)) = some (some (.agg #[.int .i64 0, .int .i64 0]), 2, 16) := by kernel_rfl
theorem zerosV {w : World} {base : Nat} {v : Value} {l : List Hp.Vl} {k : Nat} (h : w.ownsRow base 35 2 v (l.length + k) (l.flatMap vL ++ (Builtin.zeroCells (Value.agg #[.int .i64 0, .int .i64 0]).cells k).toList)) :
    w.ownsRow base 35 2 v (l ++ List.replicate k Hp.V0).length ((l ++ List.replicate k Hp.V0).flatMap vL) := by
  have e : (List.replicate k Hp.V0).flatMap vL = (Builtin.zeroCells (Value.agg #[.int .i64 0, .int .i64 0]).cells k).toList := by
    rw [show (Value.agg #[.int .i64 0, .int .i64 0]).cells = #[.int .i64 0, .int .i64 0] from rfl, Kit.zeros_two, List.flatMap_def, List.map_replicate]
    rfl
  rw [List.length_append, List.length_replicate, List.flatMap_append, e]
  exact h
def AddV (base : Nat) (H : HV) (s : Hp.St) (k : Nat) (w : World) (e : Ending) (w' : World) : Prop :=
  ∃ H' v, e = .returned v ∧ Went w w' base H H' { s with vc := s.vc ++ List.replicate k Hp.V0, ve := s.ve ++ [s.vc.length + k] } ∧ Sub H'.d 2 s.vc.length k v
set_option maxRecDepth 100000 in
set_option maxHeartbeats 1000000 in
theorem addV_any {w : World} {base : Nat} {H : HV} {s : Hp.St} (h : Rep w base H s) (k : Nat) (hn : s.vc.length + k ≤ 1073741824) (hm : s.ve.length ≤ 1073741824) :
    Calls Try.prog 58 #[.pointer (some ⟨H.ib, 4, none⟩), .int .i64 (k : Int)] w (AddV base H s k w) := by
  obtain ⟨i0, hi, hz0, hz1, hz2⟩ := info_parts infoV
  obtain ⟨i9, hi9, hz09, hz19, hz29⟩ := info_parts infoI
  unfold AddV
  obtain ⟨hb, ib, va, vb, vc, vd, ve⟩ := H; obtain ⟨lim, cs, tc, te, vs, vn⟩ := s; have e1 := own_form h.oa; have e2 := own_form h.ob; have e3 := own_form h.oc; have e4 := own_form h.od; have e5 := own_form h.oe; dsimp only at *; obtain ⟨ua, pa, rfl⟩ := e1; obtain ⟨ub, pb, rfl⟩ := e2; obtain ⟨uc, pc, rfl⟩ := e3; obtain ⟨ud, pd, rfl⟩ := e4; obtain ⟨ue, pe, rfl⟩ := e5; have hcl := h.cells; have hgen := h.hb_lt; have hgen2 := h.ib_lt; have hgen3 := h.li; dsimp only at hcl hgen hgen2 hgen3; obtain ⟨k0, k1, k2, k3, k4, k5, k6⟩ := hcl; have HR := hid h; clear h
  go_enter Try.func58, Try.ntmps58
  go_wp2_with (at_builtin; refine Kit.wpList_zeros_own rfl (.tmp 15) (.tmp 16) 75 3 rfl base 35 i0 _ .i64 2 16 Try.underlying75 Try.underlying3 hi hz0 hz1 hz2 rfl onesV (by decide) _ vs.length (vs.flatMap vL) rfl HR.out.od k rfl (by unfold maxLen; omega) (by omega) (by omega) ?_; intro v1 w1 ho1 hg1 hk1; have hc1 := Chg.of_grown (S := fun i => (Value.slice ud vs.length pd).ownBlock = some i) hg1 (fun _ e => e); have WT := hid (HR.out.setD hc1 (zerosV ho1) (hk1.imp_right (fun e => ⟨_, Nat.le_refl _, e⟩))); have g1 := (hc1.block _ HR.out.ib_lt (own_unlike_box HR.out.od HR.out.ins (by decide))).trans HR.out.ins; dsimp only at g1; have c1 : w1.cell? ⟨ib, 4, none⟩ = some (.slice ud vs.length pd) := (by simp [World.cell?, g1]); have y1 : w1.frozen? ⟨ib, 4, none⟩ = false := (by simp [World.frozen?, g1]); obtain ⟨b1, q1, rfl⟩ := own_form ho1; have HC1 := hid hc1.size; clear ho1 hg1 hk1 hc1 g1)
  obtain ⟨W, hW⟩ : ∃ W, W = w1.setCell ⟨ib, 4, none⟩ (.slice b1 (vs.length + k) q1) := ⟨_, rfl⟩
  rw [← hW] at WT ⊢
  have HWs : Hid (w.heap.size ≤ W.heap.size) := (by rw [hW]; show w.heap.size ≤ _; simpa [World.setCell] using HC1.out)
  clear hW c1 y1
  obtain ⟨x0, x1, x2, x3, x4, x5, x6⟩ := WT.out.rep.cells
  have xf5 := WT.out.rep.frozen 5
  dsimp only at x0 x1 x2 x3 x4 x5 x6 xf5
  have hbW := WT.out.rep.base_lt
  have hiW := WT.out.rep.ib_lt
  dsimp only at hiW
  have HOc := hid (fun X (k : Below W.heap.size W X) => Kit.owns_below WT.out.rep.oe k (Nat.le_refl _))
  go_region_law (refine Kit.step_append_own rfl (.tmp 24) (.tmp 30) 72 rfl base 3 i9 _ 1 8 Try.underlying72 hi9 hz09 hz19 hz29 rfl (by decide) _ vn.length (Kit.natVals vn) rfl (HOc.out _ (by repeat' first | with_reducible exact Below.refl _ _ | with_reducible assumption | with_reducible refine belows_drewN ?_ _ | with_reducible refine Below.drew ?_ | with_reducible refine Below.setCell ?_ ?_ _ | with_reducible refine Below.alloc ?_ ?_ _ | omega | (simp; done) | (simp; omega))) ⟨W.heap.size, 0, none⟩ 1 1 [.int .i64 ((vs.length : Int) + (k : Int))] rfl rfl (by intro j u hj; exact Kit.news_one W _ 3 j u hj) (Kit.ones_one rfl) (by unfold maxLen; omega) (by omega) (by first | omega | (simp; omega)) ?_; intro v2 w2 ho2 hg2 hk2; have hc2 := (Chg.of_below (S := fun i => (Value.slice ue vn.length pe).ownBlock = some i) (w := W) (by repeat' first | with_reducible exact Below.refl _ _ | with_reducible assumption | with_reducible refine belows_drewN ?_ _ | with_reducible refine Below.drew ?_ | with_reducible refine Below.setCell ?_ ?_ _ | with_reducible refine Below.alloc ?_ ?_ _ | omega | (simp; done) | (simp; omega))).grown hg2 (fun _ e => .inl e); have WT2 := hid (WT.out.rep.setE hc2 (endsSnoc ho2) (hk2.imp_right (fun e => ⟨_, (by first | omega | (simp; done) | (simp; omega)), e⟩))); have g2 := (hc2.block _ WT.out.rep.ib_lt (own_unlike_box WT.out.rep.oe WT.out.rep.ins (by decide))).trans WT.out.rep.ins; dsimp only at g2; have c2 : w2.cell? ⟨ib, 5, none⟩ = some (.slice ue vn.length pe) := (by simp [World.cell?, g2]); have y2 : w2.frozen? ⟨ib, 5, none⟩ = false := (by simp [World.frozen?, g2]); obtain ⟨b2, q2, rfl⟩ := own_form ho2; clear ho2 hg2 hk2 hc2 g2)
  all_goals
    obtain ⟨X, hX⟩ : ∃ X, X = w2.setCell ⟨ib, 5, none⟩ (.slice b2 (vn.length + 1) q2) := ⟨_, rfl⟩
    rw [← hX] at WT2 ⊢
    clear hX c2 y2 x0 x1 x2 x3 x4 x5 x6 xf5
    obtain ⟨x0, x1, x2, x3, x4, x5, x6⟩ := WT2.out.rep.cells
    dsimp only at x0 x1 x2 x3 x4 x5 x6
    have cb := (own_caps WT2.out.rep.od).2
    have HW := hid (WT.out.trans WT2.out)
    by_cases hq : vs.length = q1
    · have hk0 : k ≤ 0 := by omega
      subst hq
      go_wp2
      go_ret
      obtain rfl : k = 0 := by omega
      exact ⟨_, _, rfl, HW.out, _, _, rfl, Nat.zero_le _, fun h => absurd h (by omega)⟩
    · have hq2 : ¬ (q1 - vs.length = 0) := by omega
      clear hq
      have hb1 : 0 < k → ∃ g, b1 = some ⟨g, 0, none⟩ := fun hk => by
        obtain ⟨g, cap, h1, -⟩ := own_cell WT2.out.rep.od (by rw [List.length_append, List.length_replicate]; omega)
        exact ⟨g, (Value.slice.inj h1).1⟩
      have HB1 := hid hb1
      clear hb1
      go_wp2
      go_ret
      refine ⟨_, _, rfl, HW.out, _, _, rfl, by omega, fun hk => ?_⟩
      obtain ⟨g, rfl⟩ := HB1.out hk
      exact ⟨g, rfl, by simp [Addr.add]; omega⟩
end Go.Proofs.Ytkikdjphmnbmaaa
namespace Go.Proofs.Ytkikdjphmnbmaaa
open Go Go.RowKit

def RowPost (r : Value) (lo k : Nat) (w : World) (e : Ending) (w' : World) : Prop := ∃ v, e = .returned v ∧ Sub r 2 lo k v ∧ Below w.heap.size w w'

set_option maxRecDepth 100000 in
set_option maxHeartbeats 1000000 in
theorem rowV_any {w : World} {base : Nat} {H : HV} {s : Hp.St} (h : Rep w base H s) (i lo hi : Nat) (hl : s.vc.length ≤ 1073741824) (hm : s.ve.length ≤ 1073741824) (h0 : i = 0 → lo = 0) (h1 : 0 < i → s.ve[i - 1]? = some lo) (h2 : s.ve[i]? = some hi) (h3 : lo ≤ hi) (h4 : hi ≤ s.vc.length) :
    Calls Try.prog 47 #[.pointer (some ⟨H.ib, 4, none⟩), .int .i64 (i : Int)] w (RowPost H.d lo (hi - lo) w) := by
  unfold RowPost
  have hlt : i < s.ve.length := (List.getElem?_eq_some_iff.1 h2).1
  obtain ⟨ge, ce, hve, hce, hge, hcell⟩ := own_cell h.oe (by omega)
  have z2 := hcell _ _ (Kit.natVals_at h2)
  have z1 : 0 < i → w.cell? ⟨ge, i - 1, none⟩ = some (.int .i64 (lo : Int)) := fun hi0 => hcell _ _ (Kit.natVals_at (h1 hi0))
  have HB := hid (fun hk : 0 < hi - lo => own_cell h.od (by omega))
  have HV := hid hve
  clear hve hcell h1 h2 hge
  obtain ⟨hb, ib, va, vb, vc, vd, ve⟩ := H; obtain ⟨lim, cs, tc, te, vs, vn⟩ := s; have e1 := own_form h.oa; have e2 := own_form h.ob; have e3 := own_form h.oc; have e4 := own_form h.od; have e5 := own_form h.oe; dsimp only at *; obtain ⟨ua, pa, rfl⟩ := e1; obtain ⟨ub, pb, rfl⟩ := e2; obtain ⟨uc, pc, rfl⟩ := e3; obtain ⟨ud, pd, rfl⟩ := e4; obtain ⟨ue, pe, rfl⟩ := e5; have hcl := h.cells; have hgen := h.hb_lt; have hgen2 := h.ib_lt; have hgen3 := h.li; dsimp only at hcl hgen hgen2 hgen3; obtain ⟨k0, k1, k2, k3, k4, k5, k6⟩ := hcl; have HR := hid h; clear h
  obtain ⟨rfl, -, rfl⟩ := Value.slice.inj HV.out
  clear HV
  have hcap := (own_caps HR.out.od).2
  try dsimp only at hcap
  by_cases hi0 : i = 0
  · obtain rfl := h0 hi0
    subst hi0
    clear z1 h0
    go_enter Try.func47, Try.ntmps47
    go_wp2
    go_quiet (fail)
    go_wp2
    go_ret
    refine ⟨_, rfl, ⟨_, _, rfl, by omega, fun hk => ?_⟩, (by repeat' first | with_reducible exact Below.refl _ _ | with_reducible assumption | with_reducible refine belows_drewN ?_ _ | with_reducible refine Below.drew ?_ | with_reducible refine Below.setCell ?_ ?_ _ | with_reducible refine Below.alloc ?_ ?_ _ | omega | (simp; done) | (simp; omega))⟩
    obtain ⟨g, c, e, -⟩ := HB.out hk
    obtain ⟨rfl, -, -⟩ := Value.slice.inj e
    exact ⟨g, rfl, by simp⟩
  · have z3 := z1 (by omega)
    have hi1 : 1 ≤ i := by omega
    clear z1 h0 hi0
    go_enter Try.func47, Try.ntmps47
    go_wp2
    go_quiet (fail)
    go_wp2
    all_goals go_ret
    all_goals refine ⟨_, rfl, ⟨_, _, rfl, by omega, fun hk => ?_⟩, (by repeat' first | with_reducible exact Below.refl _ _ | with_reducible assumption | with_reducible refine belows_drewN ?_ _ | with_reducible refine Below.drew ?_ | with_reducible refine Below.setCell ?_ ?_ _ | with_reducible refine Below.alloc ?_ ?_ _ | omega | (simp; done) | (simp; omega))⟩
    · omega
    · obtain ⟨g, c, e, -⟩ := HB.out hk
      obtain ⟨rfl, -, -⟩ := Value.slice.inj e
      exact ⟨g, rfl, by simp [Addr.add]; omega⟩
end Go.Proofs.Ytkikdjphmnbmaaa
namespace Go.Proofs.Ytkikdjphmnbmaaa
open Go Go.RowKit


set_option maxRecDepth 100000 in
set_option maxHeartbeats 1000000 in
theorem rowT_any {w : World} {base : Nat} {H : HV} {s : Hp.St} (h : Rep w base H s) (i lo hi : Nat) (hl : s.tc.length ≤ 1073741824) (hm : s.te.length ≤ 1073741824) (h0 : i = 0 → lo = 0) (h1 : 0 < i → s.te[i - 1]? = some lo) (h2 : s.te[i]? = some hi) (h3 : lo ≤ hi) (h4 : hi ≤ s.tc.length) :
    Calls Try.prog 60 #[.pointer (some ⟨H.ib, 2, none⟩), .int .i64 (i : Int)] w (RowPost H.b lo (hi - lo) w) := by
  unfold RowPost
  have hlt : i < s.te.length := (List.getElem?_eq_some_iff.1 h2).1
  obtain ⟨ge, ce, hve, hce, hge, hcell⟩ := own_cell h.oc (by omega)
  have z2 := hcell _ _ (Kit.natVals_at h2)
  have z1 : 0 < i → w.cell? ⟨ge, i - 1, none⟩ = some (.int .i64 (lo : Int)) := fun hi0 => hcell _ _ (Kit.natVals_at (h1 hi0))
  have HB := hid (fun hk : 0 < hi - lo => own_cell h.ob (by omega))
  have HV := hid hve
  clear hve hcell h1 h2 hge
  obtain ⟨hb, ib, va, vb, vc, vd, ve⟩ := H; obtain ⟨lim, cs, tc, te, vs, vn⟩ := s; have e1 := own_form h.oa; have e2 := own_form h.ob; have e3 := own_form h.oc; have e4 := own_form h.od; have e5 := own_form h.oe; dsimp only at *; obtain ⟨ua, pa, rfl⟩ := e1; obtain ⟨ub, pb, rfl⟩ := e2; obtain ⟨uc, pc, rfl⟩ := e3; obtain ⟨ud, pd, rfl⟩ := e4; obtain ⟨ue, pe, rfl⟩ := e5; have hcl := h.cells; have hgen := h.hb_lt; have hgen2 := h.ib_lt; have hgen3 := h.li; dsimp only at hcl hgen hgen2 hgen3; obtain ⟨k0, k1, k2, k3, k4, k5, k6⟩ := hcl; have HR := hid h; clear h
  obtain ⟨rfl, -, rfl⟩ := Value.slice.inj HV.out
  clear HV
  have hcap := (own_caps HR.out.ob).2
  try dsimp only at hcap
  by_cases hi0 : i = 0
  · obtain rfl := h0 hi0
    subst hi0
    clear z1 h0
    go_enter Try.func60, Try.ntmps60
    go_wp2
    go_quiet (fail)
    go_wp2
    go_ret
    refine ⟨_, rfl, ⟨_, _, rfl, by omega, fun hk => ?_⟩, (by repeat' first | with_reducible exact Below.refl _ _ | with_reducible assumption | with_reducible refine belows_drewN ?_ _ | with_reducible refine Below.drew ?_ | with_reducible refine Below.setCell ?_ ?_ _ | with_reducible refine Below.alloc ?_ ?_ _ | omega | (simp; done) | (simp; omega))⟩
    obtain ⟨g, c, e, -⟩ := HB.out hk
    obtain ⟨rfl, -, -⟩ := Value.slice.inj e
    exact ⟨g, rfl, by simp⟩
  · have z3 := z1 (by omega)
    have hi1 : 1 ≤ i := by omega
    clear z1 h0 hi0
    go_enter Try.func60, Try.ntmps60
    go_wp2
    go_quiet (fail)
    go_wp2
    all_goals go_ret
    all_goals refine ⟨_, rfl, ⟨_, _, rfl, by omega, fun hk => ?_⟩, (by repeat' first | with_reducible exact Below.refl _ _ | with_reducible assumption | with_reducible refine belows_drewN ?_ _ | with_reducible refine Below.drew ?_ | with_reducible refine Below.setCell ?_ ?_ _ | with_reducible refine Below.alloc ?_ ?_ _ | omega | (simp; done) | (simp; omega))⟩
    · omega
    · obtain ⟨g, c, e, -⟩ := HB.out hk
      obtain ⟨rfl, -, -⟩ := Value.slice.inj e
      exact ⟨g, rfl, by simp [Addr.add]; omega⟩
end Go.Proofs.Ytkikdjphmnbmaaa
namespace Go.Proofs.Ytkikdjphmnbmaaa
open Go Go.RowKit

set_option maxRecDepth 100000 in
theorem isMade_any {w : World} {base : Nat} {H : HV} {s : Hp.St} (h : Rep w base H s) :
    Calls Try.prog 36 #[.pointer (some ⟨H.hb, 0, none⟩)] w fun e w' => e = .returned (.bool true) ∧ w = w' := by
  obtain ⟨hb, ib, va, vb, vc, vd, ve⟩ := H; obtain ⟨lim, cs, tc, te, vs, vn⟩ := s; have e1 := own_form h.oa; have e2 := own_form h.ob; have e3 := own_form h.oc; have e4 := own_form h.od; have e5 := own_form h.oe; dsimp only at *; obtain ⟨ua, pa, rfl⟩ := e1; obtain ⟨ub, pb, rfl⟩ := e2; obtain ⟨uc, pc, rfl⟩ := e3; obtain ⟨ud, pd, rfl⟩ := e4; obtain ⟨ue, pe, rfl⟩ := e5; have hcl := h.cells; have hgen := h.hb_lt; have hgen2 := h.ib_lt; have hgen3 := h.li; dsimp only at hcl hgen hgen2 hgen3; obtain ⟨k0, k1, k2, k3, k4, k5, k6⟩ := hcl; have HR := hid h; clear h
  go_enter Try.func36, Try.ntmps36
  go_wp2
  go_ret
  exact ⟨rfl, rfl⟩
/-- A pointer to no heap: nil, or a struct that is zero. -/
def NoHeap (w : World) (v : Value) : Prop := v = .pointer none ∨ ∃ b, v = .pointer (some ⟨b, 0, none⟩) ∧ w.cell? ⟨b, 0, none⟩ = some (.pointer none) ∧ b < w.heap.size
theorem NoHeap.below {w w' : World} {v : Value} (h : NoHeap w v) (hb : Below w.heap.size w w') : NoHeap w' v := by
  rcases h with h | ⟨b, rfl, h1, h2⟩
  · exact .inl h
  · exact .inr ⟨b, rfl, (hb.cell (p := ⟨b, 0, none⟩) h2).trans h1, Nat.lt_of_lt_of_le h2 hb.size⟩
set_option maxRecDepth 100000 in
theorem Used_any {w : World} {base : Nat} {H : HV} {s : Hp.St} (h : Rep w base H s) (hn : s.cs.length + s.vc.length ≤ 140737488355328) :
    Calls Try.prog 11 #[.pointer (some ⟨H.hb, 0, none⟩)] w fun e w' => e = .returned (.int .i64 ((s.cs.length : Int) + (s.vc.length : Int))) ∧ ∃ m, w' = w.drewN m := by
  have HM := hid (isMade_any h)
  have HU := hid (used_any h hn)
  obtain ⟨hb, ib, va, vb, vc, vd, ve⟩ := H; obtain ⟨lim, cs, tc, te, vs, vn⟩ := s; have e1 := own_form h.oa; have e2 := own_form h.ob; have e3 := own_form h.oc; have e4 := own_form h.od; have e5 := own_form h.oe; dsimp only at *; obtain ⟨ua, pa, rfl⟩ := e1; obtain ⟨ub, pb, rfl⟩ := e2; obtain ⟨uc, pc, rfl⟩ := e3; obtain ⟨ud, pd, rfl⟩ := e4; obtain ⟨ue, pe, rfl⟩ := e5; have hcl := h.cells; have hgen := h.hb_lt; have hgen2 := h.ib_lt; have hgen3 := h.li; dsimp only at hcl hgen hgen2 hgen3; obtain ⟨k0, k1, k2, k3, k4, k5, k6⟩ := hcl; have HR := hid h; clear h
  go_enter Try.func11, Try.ntmps11
  go_wp2_with (first | (go_at_call 36; refine HM.out.mono ?_; rintro e w' ⟨rfl, rfl⟩) | (go_at_call 37; refine HU.out.mono ?_; rintro e w1 ⟨rfl, m, rfl⟩))
  go_ret
  exact ⟨rfl, m, rfl⟩
/-- A new heap. -/
def St0 (lim : Nat) : Hp.St := ⟨lim, [], [], [], [], []⟩
theorem rep_new (w : World) (base lim : Nat) (hb : base ≤ w.heap.size) :
    Rep ((w.alloc (.cells #[.int .i64 lim, .slice none 0 0, .slice none 0 0, .slice none 0 0, .slice none 0 0, .slice none 0 0] 79)).alloc (.cells #[.pointer (some ⟨w.heap.size, 0, none⟩)] 59)) base
      ⟨w.heap.size + 1, w.heap.size, .slice none 0 0, .slice none 0 0, .slice none 0 0, .slice none 0 0, .slice none 0 0⟩ (St0 lim) := by
  refine ⟨?_, ?_, World.ownsRow_nil _ _ _ _, World.ownsRow_nil _ _ _ _, World.ownsRow_nil _ _ _ _, World.ownsRow_nil _ _ _ _, World.ownsRow_nil _ _ _ _, ?_, ?_, ?_, by simp; omega, hb⟩
  · have := heap_alloc_new (w.alloc (.cells #[.int .i64 lim, .slice none 0 0, .slice none 0 0, .slice none 0 0, .slice none 0 0, .slice none 0 0] 79)) (.cells #[.pointer (some ⟨w.heap.size, 0, none⟩)] 59)
    rw [World.size_alloc] at this
    exact this
  · rw [Below.heap_alloc _ _ _ (by simp)]
    exact heap_alloc_new w _
  all_goals
    intro k hk
    simp [Value.ownBlock] at hk
def NewPost (base lim : Nat) (w : World) (e : Ending) (w' : World) : Prop := ∃ H, e = .returned (.tuple #[.pointer (some ⟨H.hb, 0, none⟩), .int .i64 0]) ∧ Rep w' base H (St0 lim) ∧ Below w.heap.size w w' ∧ (∀ k, H.foot k → w.heap.size ≤ k)
set_option maxRecDepth 100000 in
theorem New_any (base lim : Nat) (w : World) (hb : base ≤ w.heap.size) (hl : lim ≤ 1048576) :
    Calls Try.prog 7 #[.int .i64 (lim : Int)] w (NewPost base lim w) := by
  go_enter Try.func7, Try.ntmps7
  go_wp2
  go_ret2
  refine ⟨_, rfl, rep_new w base lim hb, (by repeat' first | with_reducible exact Below.refl _ _ | with_reducible assumption | with_reducible refine belows_drewN ?_ _ | with_reducible refine Below.drew ?_ | with_reducible refine Below.setCell ?_ ?_ _ | with_reducible refine Below.alloc ?_ ?_ _ | omega | (simp; done) | (simp; omega)), ?_⟩
  rintro k (rfl | rfl | e | e | e | e | e)
  · exact Nat.le_succ _
  · exact Nat.le_refl _
  all_goals simp [Value.ownBlock] at e
/-- A type's first value. -/
def zeroOf (t : Hp.Ty) : Option Hp.Vl := if t.k = 1 then some ⟨1, 0⟩ else if t.k = 2 then some ⟨2, 0⟩ else if t.k = 4 then some ⟨3, 0⟩ else none
def zV (o : Option Hp.Vl) : Value := vA (o.getD Hp.V0)
set_option maxRecDepth 100000 in
theorem zero_any (t : Hp.Ty) (w : World) :
    Calls Try.prog 38 #[tA t] w fun e w' => e = .returned (.tuple #[zV (zeroOf t), .bool (zeroOf t).isSome]) ∧ Below w.heap.size w w' := by
  obtain ⟨k, str⟩ := t
  unfold tA zeroOf
  dsimp only
  by_cases h1 : k = 1
  · subst h1
    go_enter Try.func38, Try.ntmps38
    go_wp2
    exact bodyPost_ret (v := .tuple #[vA ⟨1, 0⟩, .bool true]) (by simp [results, Try.results38, go_sem, vA]) rfl ⟨rfl, (by repeat' first | with_reducible exact Below.refl _ _ | with_reducible assumption | with_reducible refine belows_drewN ?_ _ | with_reducible refine Below.drew ?_ | with_reducible refine Below.setCell ?_ ?_ _ | with_reducible refine Below.alloc ?_ ?_ _ | omega | (simp; done) | (simp; omega))⟩
  · by_cases h2 : k = 2
    · subst h2
      go_enter Try.func38, Try.ntmps38
      go_wp2
      exact bodyPost_ret (v := .tuple #[vA ⟨2, 0⟩, .bool true]) (by simp [results, Try.results38, go_sem, vA]) rfl ⟨rfl, (by repeat' first | with_reducible exact Below.refl _ _ | with_reducible assumption | with_reducible refine belows_drewN ?_ _ | with_reducible refine Below.drew ?_ | with_reducible refine Below.setCell ?_ ?_ _ | with_reducible refine Below.alloc ?_ ?_ _ | omega | (simp; done) | (simp; omega))⟩
    · by_cases h4 : k = 4
      · subst h4
        go_enter Try.func38, Try.ntmps38
        go_wp2
        exact bodyPost_ret (v := .tuple #[vA ⟨3, 0⟩, .bool true]) (by simp [results, Try.results38, go_sem, vA]) rfl ⟨rfl, (by repeat' first | with_reducible exact Below.refl _ _ | with_reducible assumption | with_reducible refine belows_drewN ?_ _ | with_reducible refine Below.drew ?_ | with_reducible refine Below.setCell ?_ ?_ _ | with_reducible refine Below.alloc ?_ ?_ _ | omega | (simp; done) | (simp; omega))⟩
      · have d1 : (k == 1) = false := by simpa using h1
        have d2 : (k == 2) = false := by simpa using h2
        have d4 : (k == 4) = false := by simpa using h4
        have HK := hid (show (if k = 1 then some (⟨1, 0⟩ : Hp.Vl) else if k = 2 then some ⟨2, 0⟩ else if k = 4 then some ⟨3, 0⟩ else none) = none by rw [if_neg h1, if_neg h2, if_neg h4])
        rw [HK.out]
        clear h1 h2 h4
        go_enter Try.func38, Try.ntmps38
        go_wp2
        exact bodyPost_ret (v := .tuple #[vA Hp.V0, .bool false]) (by simp [results, Try.results38, go_sem, vA, Hp.V0]) rfl ⟨rfl, (by repeat' first | with_reducible exact Below.refl _ _ | with_reducible assumption | with_reducible refine belows_drewN ?_ _ | with_reducible refine Below.drew ?_ | with_reducible refine Below.setCell ?_ ?_ _ | with_reducible refine Below.alloc ?_ ?_ _ | omega | (simp; done) | (simp; omega))⟩
end Go.Proofs.Ytkikdjphmnbmaaa
