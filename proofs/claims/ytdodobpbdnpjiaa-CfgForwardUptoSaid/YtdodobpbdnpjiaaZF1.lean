/- Own texts for the claim, part 1. -/
import Derived.WalkKit
import Derived.Maps.AppendAt
import Derived.Deep.RegionLaw
import Derived.RegionDies
import Derived.BigCall
import Derived.Deep.QuietTactic
import Derived.BigRegion
import Derived.Lib.SliceRun
import Derived.Deep.OwnRows
import Derived.Laws.OwnMore
import Derived.Deep.WholeRow
import Derived.Test.YtdodobpbdnpjiaaProg
import Derived.Shelf.SlSortCmp.Whole1
import Derived.Shelf.SlSortCmp.WholeK
import Derived.Shelf.SlCmpFuncs.BinarySearchFunc
import Derived.Shelf.Sort.Plain
import Derived.Shelf.Bits.Mul64
import Derived.Shelf.Slices.Reverse
import Derived.Shelf.Slices.Equal
import Derived.Shelf.Slices.CompactI
import Derived.Shelf.Slices.Cells
import Derived.Shelf.Slices.Empties2
import Derived.Shelf.Slices.In.SortNone
namespace Go.Proofs.Ytdodobpbdnpjiaa.Kit
open Go Go.RowKit

/-- A slice value of n elements, 'size' cells each, that reads as these cells. -/
def IsS (size : Nat) (w : World) (v : Value) (n : Nat) (xs : List Value) : Prop :=
  xs.length = n * size ∧ n ≤ 140737488355328 ∧ ((n = 0 ∧ ∃ a cap, v = .slice a 0 cap) ∨ (∃ b o cap, v = .slice (some ⟨b, o, none⟩) n cap ∧ n ≤ cap ∧ b < w.heap.size ∧ ∀ i u, xs[i]? = some u → w.cell? ⟨b, o + i, none⟩ = some u))
theorem IsS.below {size : Nat} {w w' : World} {v : Value} {n : Nat} {xs : List Value} (h : IsS size w v n xs) {B : Nat} (hb : Below B w w') (hB : w.heap.size ≤ B) : IsS size w' v n xs := by
  refine ⟨h.1, h.2.1, ?_⟩
  rcases h.2.2 with h | ⟨b, o, cap, hv, hl, hlt, hc⟩
  · exact .inl h
  · exact .inr ⟨b, o, cap, hv, hl, Nat.lt_of_lt_of_le hlt hb.size, fun i u hi => (hb.cell (p := ⟨b, o + i, none⟩) (by simp; omega)).trans (hc i u hi)⟩
theorem IsS.len {size : Nat} {w : World} {v : Value} {n : Nat} {xs : List Value} (h : IsS size w v n xs) : ∃ a cap, v = .slice a n cap := by
  rcases h.2.2 with ⟨rfl, a, cap, rfl⟩ | ⟨b, o, cap, rfl, -⟩
  · exact ⟨a, cap, rfl⟩
  · exact ⟨_, cap, rfl⟩
/-- What a slice with an element is. -/
theorem IsS.some {size : Nat} {w : World} {v : Value} {n : Nat} {xs : List Value} (h : IsS size w v n xs) (hn : 0 < n) :
    ∃ b o cap, v = .slice (Option.some ⟨b, o, none⟩) n cap ∧ n ≤ cap ∧ b < w.heap.size ∧ ∀ i u, xs[i]? = Option.some u → w.cell? ⟨b, o + i, none⟩ = Option.some u := by
  rcases h.2.2 with ⟨rfl, _⟩ | h
  · omega
  · exact h
/-- Out of a row of the call's own. -/
theorem isS_of_owns {w : World} {base : Nat} {e : TypeId} {size : Nat} {v : Value} {n : Nat} {xs : List Value} (h : w.ownsRow base e size v n xs) (hn : n ≤ 140737488355328) : IsS size w v n xs := by
  obtain ⟨hl, h⟩ := h
  refine ⟨hl, hn, ?_⟩
  rcases h with ⟨rfl, rfl⟩ | ⟨g, cap, cur, rfl, hg, hh, hc1, hc2, hc3, ht⟩
  · exact .inl ⟨rfl, none, 0, rfl⟩
  · refine .inr ⟨g, 0, cap, rfl, hc1, ?_, fun i u hi => ?_⟩
    · rw [Array.getElem?_eq_some_iff] at hh; exact hh.1
    · have hlt : i < xs.length := by rw [List.getElem?_eq_some_iff] at hi; exact hi.1
      have : cur[i]? = Option.some u := by
        rw [← ht, List.getElem?_take_of_lt (by omega)] at hi
        simpa using hi
      simp [World.cell?, hh, this]
theorem below_grown {B : Nat} {a w w' : World} {v : Value} (h : Below B a w) (hg : w.grownBy w' v.ownBlock) (hB : B ≤ w.heap.size) (hr : ∀ k, v.ownBlock = some k → B ≤ k) : Below B a w' := h.grown hg hB hr
theorem own_base {w : World} {base : Nat} {e : TypeId} {size : Nat} {v : Value} {n : Nat} {xs : List Value} (h : w.ownsRow base e size v n xs) : ∀ k, v.ownBlock = some k → base ≤ k := by
  intro k hk
  rcases h.2 with ⟨rfl, -⟩ | ⟨g, cap, cur, rfl, hg, -⟩
  · simp [Value.ownBlock] at hk
  · simp [Value.ownBlock] at hk; omega
/-- An owned row in a world in which its block has not turned. -/
theorem owns_below {w w' : World} {base B : Nat} {e : TypeId} {size : Nat} {v : Value} {n : Nat} {xs : List Value} (h : w.ownsRow base e size v n xs) (hb : Below B w w') (hB : w.heap.size ≤ B) : w'.ownsRow base e size v n xs := by
  obtain ⟨h1, h2⟩ := h
  refine ⟨h1, ?_⟩
  rcases h2 with h2 | ⟨g, cap, cur, hv, hg, hh, r⟩
  · exact .inl h2
  · refine .inr ⟨g, cap, cur, hv, hg, ?_, r⟩
    rw [hb.block g (by rw [Array.getElem?_eq_some_iff] at hh; have := hh.1; omega)]
    exact hh
/-- A place in a list laid flat. -/
theorem flat_at {α : Type} {f : α → List Value} {s : Nat} (hf : ∀ x, (f x).length = s) : ∀ {l : List α} {k : Nat} {x : α}, l[k]? = some x → ∀ j, j < s → (l.flatMap f)[k * s + j]? = (f x)[j]?
  | [], _, _, h, _, _ => by simp at h
  | a :: l, 0, x, h, j, hj => by
    simp only [List.getElem?_cons_zero, Option.some.injEq] at h
    subst h
    rw [List.flatMap_cons, List.getElem?_append_left (by rw [hf]; omega)]
    simp
  | a :: l, k + 1, x, h, j, hj => by
    rw [List.flatMap_cons, List.getElem?_append_right (by rw [hf, Nat.add_mul]; omega), hf]
    rw [show (k + 1) * s + j - s = k * s + j by rw [Nat.add_mul]; omega]
    exact flat_at hf (by simpa using h) j hj
theorem flat_len {α : Type} {f : α → List Value} {s : Nat} (hf : ∀ x, (f x).length = s) : ∀ l : List α, (l.flatMap f).length = l.length * s
  | [] => by simp
  | a :: l => by rw [List.flatMap_cons, List.length_append, hf, flat_len hf l, List.length_cons, Nat.add_mul]; omega
/-- One new cell, as an append's source. -/
theorem news_one (w : World) (x : Value) (t : TypeId) : ∀ j u, [x][j]? = some u → (w.alloc (.cells #[x] t)).cell? ((⟨w.heap.size, 0, none⟩ : Addr).add j) = some u := by
  intro j u h
  match j, h with
  | 0, h =>
    simp only [List.getElem?_cons_zero, Option.some.injEq] at h
    subst h
    show (w.alloc (.cells #[x] t)).cell? ⟨w.heap.size, 0, none⟩ = some x
    rw [World.cell?_alloc_new]; rfl
  | j + 1, h => simp at h
theorem ones_one {x : Value} (h : x.oneCell' = true) : ∀ u ∈ [x], u.oneCell' = true := by
  intro u hu
  simp only [List.mem_singleton] at hu
  subst hu; exact h
/-- Numbers as cells. -/
def natVals (ns : List Nat) : List Value := ns.map fun n : Nat => .int .i64 (n : Int)
theorem natVals_snoc (ns : List Nat) (n : Nat) : natVals (ns ++ [n]) = natVals ns ++ [.int .i64 (n : Int)] := by unfold natVals; simp
theorem natVals_at {ns : List Nat} {k n : Nat} (h : ns[k]? = some n) : (natVals ns)[k]? = some (.int .i64 (n : Int)) := by unfold natVals; simp [h]
end Go.Proofs.Ytdodobpbdnpjiaa.Kit
namespace Go.Proofs.Ytdodobpbdnpjiaa.Kit
open Go Go.RowKit

theorem own_lt {w : World} {base : Nat} {e : TypeId} {size : Nat} {v : Value} {n : Nat} {xs : List Value} (h : w.ownsRow base e size v n xs) : ∀ k, v.ownBlock = some k → k < w.heap.size := by
  intro k hk
  rcases h.2 with ⟨rfl, -⟩ | ⟨g, cap, cur, rfl, hg, hh, -⟩
  · simp [Value.ownBlock] at hk
  · simp only [Value.ownBlock, Option.some.injEq] at hk
    subst hk
    rw [Array.getElem?_eq_some_iff] at hh
    exact hh.1
/-- From w to w' only the row of v may have been written; the new value's row is that one, or a new one. -/
structure Grows (w w' : World) (v v' : Value) : Prop where
  grown : w.grownBy w' v.ownBlock
  blk : v'.ownBlock = v.ownBlock ∨ ∃ k, w.heap.size ≤ k ∧ v'.ownBlock = some k
theorem Grows.refl (w : World) (v : Value) : Grows w w v v := ⟨⟨rfl, rfl, rfl, Nat.le_refl _, fun _ _ _ => rfl⟩, .inl rfl⟩
theorem Grows.trans {a b c : World} {u v x : Value} (h : Grows a b u v) (k : Grows b c v x) : Grows a c u x := by
  refine ⟨⟨k.grown.os.trans h.grown.os, k.grown.tape.trans h.grown.tape, k.grown.output.trans h.grown.output, Nat.le_trans h.grown.size k.grown.size, fun i hi hne => ?_⟩, ?_⟩
  · have h2 : some i ≠ v.ownBlock := by
      rcases h.blk with e | ⟨j, hj, e⟩
      · rw [e]; exact hne
      · rw [e]; intro e2; have := Option.some.inj e2; omega
    exact (k.grown.block i (Nat.lt_of_lt_of_le hi h.grown.size) h2).trans (h.grown.block i hi hne)
  · rcases k.blk with e | ⟨j, hj, e⟩
    · rw [e]; exact h.blk
    · exact .inr ⟨j, Nat.le_trans h.grown.size hj, e⟩
theorem Grows.below {a b c : World} {u v : Value} (h : Grows a b u v) (k : Below b.heap.size b c) : Grows a c u v :=
  ⟨⟨k.os.trans h.grown.os, k.tape.trans h.grown.tape, k.output.trans h.grown.output, Nat.le_trans h.grown.size k.size, fun i hi hne => (k.block i (Nat.lt_of_lt_of_le hi h.grown.size)).trans (h.grown.block i hi hne)⟩, h.blk⟩
/-- A cell of a block that is not the row's. -/
theorem Grows.cell {w w' : World} {v v' : Value} (h : Grows w w' v v') {b : Nat} (hb : b < w.heap.size) (hne : ∀ k, v.ownBlock = some k → k ≠ b) (o : Nat) : w'.cell? ⟨b, o, none⟩ = w.cell? ⟨b, o, none⟩ :=
  World.cell?_of_block (h.grown.block b hb (fun e => hne b e.symm rfl))
theorem Grows.frozen {w w' : World} {v v' : Value} (h : Grows w w' v v') {b : Nat} (hb : b < w.heap.size) (hne : ∀ k, v.ownBlock = some k → k ≠ b) (o : Nat) : w'.frozen? ⟨b, o, none⟩ = w.frozen? ⟨b, o, none⟩ :=
  World.frozen?_of_block (h.grown.block b hb (fun e => hne b e.symm rfl))
theorem Grows.to_below {B : Nat} {a w w' : World} {v v' : Value} (h : Grows w w' v v') (hb : Below B a w) (hB : B ≤ w.heap.size) (hv : ∀ k, v.ownBlock = some k → B ≤ k) : Below B a w' := hb.grown h.grown hB hv
theorem Grows.size {w w' : World} {v v' : Value} (h : Grows w w' v v') : w.heap.size ≤ w'.heap.size := h.grown.size
end Go.Proofs.Ytdodobpbdnpjiaa.Kit
namespace Go.Proofs.Ytdodobpbdnpjiaa.Kit
open Go Go.RowKit

theorem step_call1 {P : Program} {ops : Array Oper} {o : Oper} {a : Act} {w : World} {K : Act → World → Prop} {Q : Exit → Act → World → Prop} {E : Prop}
    (hg : o.guard = none) (f : FuncId) (x : Operand) (t : TypeId) (hop : o.op = Op.call { callee := Callee.value (.func f), args := #[x], argTypes := #[t] }) (v : Value) (hx : a.eval x = v) (hcf : (callFunc f #[v]).run P w = .ok (.enter f #[v]) w)
    (R : Ending → World → Prop) (hC : Calls P f #[v] w R) (hR : ∀ e w', R e w' → ∃ u, e = .returned u ∧ K (a.put o.dst u) w') :
    if Region.wanted o (yielded ops a.tmps) = true then Oper.wp P o a w K Q else E := by
  have hw : Region.wanted o (yielded ops a.tmps) = true := by simp [Region.wanted, hg]
  rw [if_pos hw]
  have hrun : (execOp a.eval o).run P w = .ok (.enter f #[v]) w := by
    cases o
    simp only at hop
    subst hop hx
    rw [execOp_call_go]
    simpa using hcf
  unfold Oper.wp
  rw [hrun]
  show Calls P f #[v] w _
  refine hC.mono ?_
  intro e w' h
  obtain ⟨u, rfl, hk⟩ := hR e w' h
  exact hk
theorem step_call2 {P : Program} {ops : Array Oper} {o : Oper} {a : Act} {w : World} {K : Act → World → Prop} {Q : Exit → Act → World → Prop} {E : Prop}
    (hg : o.guard = none) (f : FuncId) (x y : Operand) (t t' : TypeId) (hop : o.op = Op.call { callee := Callee.value (.func f), args := #[x, y], argTypes := #[t, t'] }) (v v' : Value) (hx : a.eval x = v) (hy : a.eval y = v') (hcf : (callFunc f #[v, v']).run P w = .ok (.enter f #[v, v']) w)
    (R : Ending → World → Prop) (hC : Calls P f #[v, v'] w R) (hR : ∀ e w', R e w' → ∃ u, e = .returned u ∧ K (a.put o.dst u) w') :
    if Region.wanted o (yielded ops a.tmps) = true then Oper.wp P o a w K Q else E := by
  have hw : Region.wanted o (yielded ops a.tmps) = true := by simp [Region.wanted, hg]
  rw [if_pos hw]
  have hrun : (execOp a.eval o).run P w = .ok (.enter f #[v, v']) w := by
    cases o
    simp only at hop
    subst hop hx hy
    rw [execOp_call_go]
    simpa using hcf
  unfold Oper.wp
  rw [hrun]
  show Calls P f #[v, v'] w _
  refine hC.mono ?_
  intro e w' h
  obtain ⟨u, rfl, hk⟩ := hR e w' h
  exact hk
theorem step_append_own {P : Program} {ops : Array Oper} {o : Oper} {a : Act} {w : World} {K : Act → World → Prop} {Q : Exit → Act → World → Prop} {E : Prop}
    (hg : o.guard = none) (s x : Operand) (t : TypeId) (hop : o.op = Op.call { callee := Callee.builtin Builtin.append, args := #[s, x], argTypes := #[t, t] })
    (base : Nat) (e : TypeId) (i : TypeInfo) (z : Value) (size bytes : Nat) (ht : P.underlying t = some (.slice e)) (hi : P.info? e = some i) (hz : i.zero = some z)
    (hsize : i.size = size) (hby : i.bytes = bytes) (hzs : z.cells.size = size) (hsz : 0 < size)
    (v : Value) (n : Nat) (xs : List Value) (hs : a.eval s = v) (hown : w.ownsRow base e size v n xs)
    (ad : Addr) (m c : Nat) (news : List Value) (hx : a.eval x = .slice (some ad) m c) (hl : news.length = m * size) (hnews : ∀ j u, news[j]? = some u → w.cell? (ad.add j) = some u) (h1 : ∀ u ∈ news, u.oneCell' = true)
    (h63 : n + m ≤ maxLen) (hbytes : (n + m) * bytes ≤ 140737488355328) (hbase : base ≤ w.heap.size)
    (hK : ∀ v' w', w'.ownsRow base e size v' (n + m) (xs ++ news) → w.grownBy w' v.ownBlock → (v'.ownBlock = v.ownBlock ∨ v'.ownBlock = some w.heap.size) → K (a.put o.dst v') w') :
    if Region.wanted o (yielded ops a.tmps) = true then Oper.wp P o a w K Q else E := by
  have hw : Region.wanted o (yielded ops a.tmps) = true := by simp [Region.wanted, hg]
  rw [if_pos hw]
  obtain ⟨v', w', hr, h2, h3, -, h5⟩ := run_append_own_at (P := P) w base t o.type e i z size bytes ht hi hz hsize hby hzs hsz v n xs hown ad m c news hl hnews h1 h63 hbytes hbase
  unfold Oper.wp execOp
  simp only [hop, resolve, invoke, builtin, Sem.run_bind, Sem.run_pure, Result.andThen_ok, List.map_toArray, List.map_cons, List.map_nil, hs, hx, hr]
  exact hK _ _ h2 h3 h5
end Go.Proofs.Ytdodobpbdnpjiaa.Kit
namespace Go.Proofs.Ytdodobpbdnpjiaa
open Go Go.RowKit
open Kit (natVals)

theorem hid {p : Prop} (h : p) : Hid p := h
theorem belows {B : Nat} {a b c : World} (h : Below B a b) (k : Below b.heap.size b c) (hB : B ≤ b.heap.size) : Below B a c := h.trans (k.mono hB)
theorem belows_drewN {B : Nat} {a b : World} (h : Below B a b) (n : Nat) : Below B a (b.drewN n) := ⟨h.os, h.tape, h.output, h.size, h.block⟩
theorem below_drewN (w : World) (n : Nat) : Below w.heap.size w (w.drewN n) := ⟨rfl, rfl, rfl, Nat.le_refl _, fun _ _ => rfl⟩
/-- Of the blocks that there were, only those of S may have been written. -/
structure Chg (S : Nat → Prop) (w w' : World) : Prop where
  os : w'.os = w.os
  tape : w'.tape = w.tape
  output : w'.output = w.output
  size : w.heap.size ≤ w'.heap.size
  block : ∀ k, k < w.heap.size → ¬ S k → w'.heap[k]? = w.heap[k]?
section
variable {S T : Nat → Prop} {a b c w w' : World}
theorem Chg.refl (S : Nat → Prop) (w : World) : Chg S w w := ⟨rfl, rfl, rfl, Nat.le_refl _, fun _ _ _ => rfl⟩
theorem Chg.trans (h : Chg S a b) (k : Chg T b c) (hT : ∀ i, T i → S i ∨ a.heap.size ≤ i) : Chg S a c :=
  ⟨k.os.trans h.os, k.tape.trans h.tape, k.output.trans h.output, Nat.le_trans h.size k.size, fun i hi hs =>
    (k.block i (Nat.lt_of_lt_of_le hi h.size) (fun ht => by rcases hT i ht with h1 | h1; exact hs h1; omega)).trans (h.block i hi hs)⟩
theorem Chg.mono (h : Chg S a b) (hs : ∀ i, i < a.heap.size → S i → T i) : Chg T a b := ⟨h.os, h.tape, h.output, h.size, fun i hi ht => h.block i hi (fun e => ht (hs i hi e))⟩
theorem Chg.of_below (h : Below w.heap.size w w') : Chg S w w' := ⟨h.os, h.tape, h.output, h.size, fun k hk _ => h.block k hk⟩
theorem Chg.below (h : Chg S a b) (k : Below b.heap.size b c) : Chg S a c := h.trans (Chg.of_below (S := fun _ => False) k) (fun _ e => e.elim)
theorem Chg.of_grown {row : Option Nat} (h : w.grownBy w' row) (hr : ∀ k, row = some k → S k) : Chg S w w' :=
  ⟨h.os, h.tape, h.output, h.size, fun k hk hs => h.block k hk (fun e => hs (hr k e.symm))⟩
theorem Chg.grown {row : Option Nat} (h : Chg S a b) (k : b.grownBy c row) (hr : ∀ k, row = some k → S k ∨ a.heap.size ≤ k) : Chg S a c :=
  h.trans (Chg.of_grown (S := fun i => row = some i) k (fun _ e => e)) (fun i e => hr i e)
theorem Chg.alloc (h : Chg S a b) (o : Obj) : Chg S a (b.alloc o) := h.below ((Below.refl _ _).alloc (Nat.le_refl _) _)
theorem Chg.drew (h : Chg S a b) : Chg S a b.drew := h.below (Below.drew (Below.refl _ _))
theorem Chg.set (h : Chg S a b) {p : Addr} (hp : S p.block ∨ a.heap.size ≤ p.block) (u : Value) : Chg S a (b.setCell p u) :=
  h.trans (T := fun i => i = p.block) ⟨rfl, rfl, rfl, by simp [World.setCell], fun k _ hk => Below.heap_setCell _ _ _ _ hk⟩ (fun i e => e ▸ hp)
theorem Chg.to_below {B : Nat} (h : Chg S w w') (hS : ∀ k, S k → B ≤ k) (hB : B ≤ w.heap.size) : Below B w w' :=
  ⟨h.os, h.tape, h.output, h.size, fun k hk => h.block k (by omega) (fun e => by have := hS k e; omega)⟩
theorem Chg.cell (h : Chg S w w') {p : Addr} (hp : p.block < w.heap.size) (hs : ¬ S p.block) : w'.cell? p = w.cell? p := World.cell?_of_block (h.block _ hp hs)
theorem owns_chg {base : Nat} {e : TypeId} {size : Nat} {v : Value} {n : Nat} {xs : List Value} (h : w.ownsRow base e size v n xs) (hc : Chg S w w') (hs : ∀ k, v.ownBlock = some k → ¬ S k) : w'.ownsRow base e size v n xs := by
  refine ⟨h.1, ?_⟩
  rcases h.2 with h2 | ⟨g, cap, cur, rfl, hg, hh, k⟩
  · exact .inl h2
  · exact .inr ⟨g, cap, cur, rfl, hg, (hc.block g (Array.getElem?_eq_some_iff.1 hh).1 (hs g rfl)).trans hh, k⟩
end
/-- Rows of unlike element types lie apart. -/
theorem own_unlike {w : World} {b b' : Nat} {e e' : TypeId} {s s' : Nat} {v v' : Value} {n n' : Nat} {xs xs' : List Value} (h : w.ownsRow b e s v n xs) (h' : w.ownsRow b' e' s' v' n' xs') (he : e ≠ e') : ∀ k, v.ownBlock = some k → v'.ownBlock ≠ some k := by
  intro k hk hk'
  rcases h.2 with ⟨rfl, -⟩ | ⟨g, cap, cur, rfl, hg, hh, -⟩
  · simp [Value.ownBlock] at hk
  · rcases h'.2 with ⟨rfl, -⟩ | ⟨g', cap', cur', rfl, hg', hh', -⟩
    · simp [Value.ownBlock] at hk'
    · simp only [Value.ownBlock, Option.some.injEq] at hk hk'
      subst hk
      subst hk'
      rw [hh] at hh'
      simp only [Option.some.injEq, Obj.cells.injEq] at hh'
      exact he hh'.2.1
theorem own_unlike_box {w : World} {b : Nat} {e e' : TypeId} {s : Nat} {v : Value} {n : Nat} {xs : List Value} (h : w.ownsRow b e s v n xs) {k : Nat} {cs : Array Value} {f : Nat × Nat} (h' : w.heap[k]? = some (.cells cs e' f)) (he : e ≠ e') : v.ownBlock ≠ some k := by
  intro hk
  rcases h.2 with ⟨rfl, -⟩ | ⟨g, cap, cur, rfl, hg, hh, -⟩
  · simp [Value.ownBlock] at hk
  · simp only [Value.ownBlock, Option.some.injEq] at hk
    subst hk
    rw [hh] at h'
    simp only [Option.some.injEq, Obj.cells.injEq] at h'
    exact he h'.2.1
/-- A store of one cell into the inner block. -/
theorem box_set {w : World} {b : Nat} {cs : Array Value} {T : TypeId} (h : w.heap[b]? = some (.cells cs T (0, 0))) (i : Nat) (u : Value) : (w.setCell ⟨b, i, none⟩ u).heap[b]? = some (.cells (cs.setIfInBounds i u) T (0, 0)) := by
  obtain ⟨hlt, hk⟩ := Array.getElem?_eq_some_iff.1 h
  show (w.heap.modify b _)[b]? = _
  rw [Array.getElem?_eq_getElem (by rw [Array.size_modify]; exact hlt), Array.getElem_modify_self, hk]
  rfl
theorem owns_set {w : World} {base : Nat} {e : TypeId} {size g n cap : Nat} {xs : List Value} (h : w.ownsRow base e size (.slice (some ⟨g, 0, none⟩) n cap) n xs) (i : Nat) (u : Value) :
    (w.setCell ⟨g, i, none⟩ u).ownsRow base e size (.slice (some ⟨g, 0, none⟩) n cap) n (xs.set i u) := by
  refine ⟨by rw [List.length_set]; exact h.1, ?_⟩
  rcases h.2 with ⟨h2, -⟩ | ⟨g', cap', cur, hv, hg, hh, h1, h2, h3, h4⟩
  · cases h2
  · obtain ⟨e1, -, rfl⟩ := Value.slice.inj hv
    obtain rfl : g = g' := by simpa using e1
    refine .inr ⟨g, cap, cur.setIfInBounds i u, rfl, hg, box_set hh i u, h1, h2, by rw [Array.size_setIfInBounds]; exact h3, ?_⟩
    rw [Array.toList_setIfInBounds, ← h4]
    exact List.take_set
/-- A block known whole. -/
def BX (w : World) (b : Nat) (cs : Array Value) (T : TypeId) : Prop := w.heap[b]? = some (.cells cs T (0, 0))
theorem BX.new (w : World) (cs : Array Value) (T : TypeId) : BX (w.alloc (.cells cs T)) w.heap.size cs T := heap_alloc_new w _
theorem BX.sz {w : World} {b : Nat} {cs : Array Value} {T : TypeId} (h : BX w b cs T) : b < w.heap.size := (Array.getElem?_eq_some_iff.1 h).1
theorem BX.chg {S : Nat → Prop} {w w' : World} {b : Nat} {cs : Array Value} {T : TypeId} (h : BX w b cs T) (hc : Chg S w w') (hs : ¬ S b) : BX w' b cs T := (hc.block b h.sz hs).trans h
theorem BX.below {w w' : World} {b : Nat} {cs : Array Value} {T : TypeId} (h : BX w b cs T) (hb : Below w.heap.size w w') : BX w' b cs T := (hb.block b h.sz).trans h
theorem BX.cell {w : World} {b : Nat} {cs : Array Value} {T : TypeId} (h : BX w b cs T) (j : Nat) : w.cell? ⟨b, j, none⟩ = cs[j]? := by
  simp only [World.cell?]
  rw [show w.heap[(⟨b, j, none⟩ : Addr).block]? = _ from h]
  simp
theorem BX.frozen {w : World} {b : Nat} {cs : Array Value} {T : TypeId} (h : BX w b cs T) (j : Nat) : w.frozen? ⟨b, j, none⟩ = false := by
  simp only [World.frozen?]
  rw [show w.heap[(⟨b, j, none⟩ : Addr).block]? = _ from h]
  simp
/-- New cells, as an append's source. -/
theorem news_of (w : World) (cs : List Value) (t : TypeId) : ∀ j u, cs[j]? = some u → (w.alloc (.cells cs.toArray t)).cell? ((⟨w.heap.size, 0, none⟩ : Addr).add j) = some u := by
  intro j u h
  have e : (⟨w.heap.size, 0, none⟩ : Addr).add j = ⟨w.heap.size, j, none⟩ := by rw [Go.WideShapes.add_plain]; simp
  rw [e, BX.cell (BX.new w cs.toArray t)]
  simpa using h
/-- A function that is another one at one place. -/
def upd {α : Type} (f : Nat → α) (k : Nat) (x : α) : Nat → α := fun j => if j = k then x else f j
theorem upd_same {α : Type} (f : Nat → α) (k : Nat) (x : α) : upd f k x k = x := if_pos rfl
theorem upd_other {α : Type} (f : Nat → α) {j k : Nat} (x : α) (h : j ≠ k) : upd f k x j = f j := if_neg h
theorem flatMap_same {α : Type} {f g : α → List Value} : ∀ {l : List α}, (∀ x ∈ l, f x = g x) → l.flatMap f = l.flatMap g
  | [], _ => rfl
  | a :: l, h => by rw [List.flatMap_cons, List.flatMap_cons, h a (by simp), flatMap_same fun x hx => h x (by simp [hx])]
theorem own_form {w : World} {base : Nat} {e : TypeId} {size : Nat} {v : Value} {n : Nat} {xs : List Value} (h : w.ownsRow base e size v n xs) : ∃ a cap, v = .slice a n cap := by
  rcases h.2 with ⟨rfl, rfl⟩ | ⟨g, cap, cur, rfl, -⟩
  · exact ⟨_, _, rfl⟩
  · exact ⟨_, _, rfl⟩
theorem infoI : (Try.prog.info? 3).map (fun i => (i.zero, i.size, i.bytes)) = some (some (.int .i64 0), 1, 8) := by kernel_rfl
theorem info_parts {P : Program} {t : TypeId} {z : Option Value} {s b : Nat} (h : (P.info? t).map (fun i => (i.zero, i.size, i.bytes)) = some (z, s, b)) : ∃ i, P.info? t = some i ∧ i.zero = z ∧ i.size = s ∧ i.bytes = b := by
  cases hi : P.info? t with
  | none => rw [hi] at h; simp at h
  | some i =>
    rw [hi] at h
    simp only [Option.map_some, Option.some.injEq, Prod.mk.injEq] at h
    exact ⟨i, rfl, h.1, h.2.1, h.2.2⟩
theorem owns_empty {w : World} {base : Nat} {e : TypeId} {size : Nat} (hB : base ≤ w.heap.size) : (w.alloc (.cells #[] e)).ownsRow base e size (.slice (some ⟨w.heap.size, 0, none⟩) 0 0) 0 [] :=
  ⟨by simp, .inr ⟨w.heap.size, 0, #[], rfl, hB, heap_alloc_last w _, by omega, by unfold maxLen; omega, by simp, by simp⟩⟩
theorem own_at0 {w : World} {base : Nat} {e : TypeId} {v : Value} {n : Nat} {xs : List Value} (h : w.ownsRow base e 1 v n xs) (hn : 0 < n) : ∃ g cap, v = .slice (some ⟨g, 0, none⟩) n cap ∧ g < w.heap.size ∧ ∀ i u, xs[i]? = some u → w.cell? ⟨g, i, none⟩ = some u ∧ w.frozen? ⟨g, i, none⟩ = false := by
  obtain ⟨hl, h⟩ := h
  rcases h with ⟨-, h2⟩ | ⟨g, cap, cur, rfl, hg, hh, hc1, hc2, hc3, ht⟩
  · omega
  · refine ⟨g, cap, rfl, (Array.getElem?_eq_some_iff.1 hh).1, fun i u hi => ⟨?_, by simp [World.frozen?, hh]⟩⟩
    have hlt : i < xs.length := (List.getElem?_eq_some_iff.1 hi).1
    have : cur[i]? = some u := by
      rw [← ht, List.getElem?_take_of_lt (by omega)] at hi
      simpa using hi
    simp [World.cell?, hh, this]
theorem own_frz {w : World} {base : Nat} {e : TypeId} {size : Nat} {v : Value} {n : Nat} {xs : List Value} (h : w.ownsRow base e size v n xs) {g : Nat} (hg : v.ownBlock = some g) : ∀ i, w.frozen? ⟨g, i, none⟩ = false := by
  rcases h.2 with ⟨rfl, -⟩ | ⟨g', cap, cur, rfl, hb, hh, -⟩
  · simp [Value.ownBlock] at hg
  · simp only [Value.ownBlock, Option.some.injEq] at hg
    subst hg
    intro i
    simp [World.frozen?, hh]
theorem Kit.owns_mono {w : World} {b b' : Nat} {e : TypeId} {size : Nat} {v : Value} {n : Nat} {xs : List Value} (h : w.ownsRow b e size v n xs) (hb : b' ≤ b) : w.ownsRow b' e size v n xs := by
  refine ⟨h.1, ?_⟩
  rcases h.2 with h2 | ⟨g, cap, cur, hv, hg, k⟩
  · exact .inl h2
  · exact .inr ⟨g, cap, cur, hv, Nat.le_trans hb hg, k⟩
theorem owns_made (W : World) {base : Nat} (hB : base ≤ W.heap.size) (z : Value) (n : Nat) (hn : n ≤ maxLen) (t : TypeId) : (W.alloc (.cells (madeCells #[z] n) t)).ownsRow base t 1 (.slice (some ⟨W.heap.size, 0, none⟩) n n) n (List.replicate n z) := by
  refine ⟨by simp, .inr ⟨W.heap.size, n, madeCells #[z] n, rfl, hB, heap_alloc_last W _, Nat.le_refl _, hn, by simp [madeCells], ?_⟩⟩
  rw [toList_madeCells_one, Nat.mul_one, List.take_of_length_le (by simp)]
theorem owns_set1 {w : World} {base : Nat} {e : TypeId} {g n cap : Nat} {xs ys : List Value} (h : w.ownsRow base e 1 (.slice (some ⟨g, 0, none⟩) n cap) n xs) (i : Nat) (u : Value) (hy : ys = xs.set i u) :
    (w.setCell ⟨g, i, none⟩ u).ownsRow base e 1 (.slice (some ⟨g, 0, none⟩) n cap) n ys := by
  rw [hy]
  exact owns_set h i u
/-- A row of one cell each, at a known address. -/
theorem own_cell {w : World} {base : Nat} {e : TypeId} {g n cap : Nat} {xs : List Value} (h : w.ownsRow base e 1 (.slice (some ⟨g, 0, none⟩) n cap) n xs) {i : Nat} {u : Value} (hi : xs[i]? = some u) : w.cell? ⟨g, i, none⟩ = some u ∧ w.frozen? ⟨g, i, none⟩ = false := by
  have hlt := (List.getElem?_eq_some_iff.1 hi).1
  have hl := h.1
  obtain ⟨g', cap', hv, -, hc⟩ := own_at0 h (by omega)
  obtain ⟨e1, -, -⟩ := Value.slice.inj hv
  rw [Option.some.injEq, Addr.mk.injEq] at e1
  obtain ⟨rfl, -, -⟩ := e1
  exact hc i u hi
/-- Bools as cells. -/
def bvals (f : Nat → Bool) (n : Nat) : List Value := (List.range n).map (fun i => .bool (f i))
theorem bvals_len (f : Nat → Bool) (n : Nat) : (bvals f n).length = n := by simp [bvals]
theorem bvals_at {f : Nat → Bool} {n i : Nat} (h : i < n) : (bvals f n)[i]? = some (.bool (f i)) := by
  unfold bvals
  rw [List.getElem?_map, List.getElem?_range h]
  rfl
theorem bvals_same {f g : Nat → Bool} {n : Nat} (h : ∀ i, i < n → f i = g i) : bvals f n = bvals g n := by
  unfold bvals
  apply List.map_congr_left
  intro i hi
  rw [h i (List.mem_range.1 hi)]
theorem bvals_set {f g : Nat → Bool} {n p : Nat} {b : Bool} (h : ∀ i, i < n → g i = if i = p then b else f i) : bvals g n = (bvals f n).set p (.bool b) := by
  apply List.ext_getElem?
  intro i
  rw [List.getElem?_set]
  by_cases hi : i < n
  · rw [bvals_at hi, h i hi]
    by_cases e : p = i
    · rw [if_pos e.symm, if_pos e, if_pos (by rw [bvals_len]; omega)]
    · rw [if_neg (fun k => e k.symm), if_neg e, bvals_at hi]
  · rw [List.getElem?_eq_none (by rw [bvals_len]; omega)]
    by_cases e : p = i
    · rw [if_pos e, if_neg (by rw [bvals_len]; omega)]
    · rw [if_neg e, List.getElem?_eq_none (by rw [bvals_len]; omega)]
theorem bvals_no (n : Nat) : bvals (fun _ => false) n = List.replicate n (.bool false) := by
  apply List.ext_getElem?
  intro i
  by_cases hi : i < n
  · rw [bvals_at hi, List.getElem?_replicate, if_pos hi]
  · rw [List.getElem?_eq_none (by rw [bvals_len]; omega), List.getElem?_replicate, if_neg hi]
/-- Numbers as cells, by a function. -/
def ivals (f : Nat → Int) (n : Nat) : List Value := (List.range n).map (fun i => .int .i64 (f i))
theorem ivals_len (f : Nat → Int) (n : Nat) : (ivals f n).length = n := by simp [ivals]
theorem ivals_at {f : Nat → Int} {n i : Nat} (h : i < n) : (ivals f n)[i]? = some (.int .i64 (f i)) := by
  unfold ivals
  rw [List.getElem?_map, List.getElem?_range h]
  rfl
theorem ivals_same {f g : Nat → Int} {n : Nat} (h : ∀ i, i < n → f i = g i) : ivals f n = ivals g n := by
  unfold ivals
  apply List.map_congr_left
  intro i hi
  rw [h i (List.mem_range.1 hi)]
theorem ivals_set {f g : Nat → Int} {n p : Nat} {b : Int} (h : ∀ i, i < n → g i = if i = p then b else f i) : ivals g n = (ivals f n).set p (.int .i64 b) := by
  apply List.ext_getElem?
  intro i
  rw [List.getElem?_set]
  by_cases hi : i < n
  · rw [ivals_at hi, h i hi]
    by_cases e : p = i
    · rw [if_pos e.symm, if_pos e, if_pos (by rw [ivals_len]; omega)]
    · rw [if_neg (fun k => e k.symm), if_neg e, ivals_at hi]
  · rw [List.getElem?_eq_none (by rw [ivals_len]; omega)]
    by_cases e : p = i
    · rw [if_pos e, if_neg (by rw [ivals_len]; omega)]
    · rw [if_neg e, List.getElem?_eq_none (by rw [ivals_len]; omega)]
theorem ivals_const (c : Int) (n : Nat) : ivals (fun _ => c) n = List.replicate n (.int .i64 c) := by
  apply List.ext_getElem?
  intro i
  by_cases hi : i < n
  · rw [ivals_at hi, List.getElem?_replicate, if_pos hi]
  · rw [List.getElem?_eq_none (by rw [ivals_len]; omega), List.getElem?_replicate, if_neg hi]
theorem ivals_nat (f : Nat → Nat) (n : Nat) : ivals (fun i => (f i : Int)) n = natVals ((List.range n).map f) := by
  unfold ivals natVals
  rw [List.map_map]
  rfl
end Go.Proofs.Ytdodobpbdnpjiaa
namespace Go.Proofs.Ytdodobpbdnpjiaa.Cf
open Go

structure Op5 where
  t : Int
  k : Int
  a : Int
  n : Int
  o : Int
structure Ca where
  f : Int
  t : Int
  a : Int
  c : Int
def opL (x : Op5) : List Value := [.int .i64 x.t, .int .i64 x.k, .int .i64 x.a, .int .i64 x.n, .int .i64 x.o]
def caL (x : Ca) : List Value := [.int .i64 x.f, .int .i64 x.t, .int .i64 x.a, .int .i64 x.c]
theorem opL_len (x : Op5) : (opL x).length = 5 := rfl
theorem caL_len (x : Ca) : (caL x).length = 4 := rfl
def jmp (k : Int) : Bool := decide (k = 32) || decide (k = 33) || decide (k = 34) || decide (k = 35) || decide (k = 36)
def stp (k : Int) : Bool := decide (k = 36) || decide (k = 37) || decide (k = 48)
def first : List Op5 → Int → Option Nat
  | [], _ => none
  | x :: r, at_ => if x.t = at_ then some 0 else (first r at_).map (· + 1)
theorem first_some : ∀ {L : List Op5} {t : Int} {i : Nat}, first L t = some i ↔ (∃ x, L[i]? = some x ∧ x.t = t) ∧ ∀ j x, j < i → L[j]? = some x → x.t ≠ t
  | [], t, i => by simp [first]
  | y :: r, t, i => by
    unfold first
    by_cases h : y.t = t
    · rw [if_pos h]
      constructor
      · rintro h2
        obtain rfl := Option.some.inj h2
        exact ⟨⟨y, rfl, h⟩, fun j x hj => by omega⟩
      · rintro ⟨-, h2⟩
        cases i with
        | zero => rfl
        | succ i => exact absurd h (h2 0 y (by omega) rfl)
    · rw [if_neg h]
      cases i with
      | zero => simp [h]
      | succ i =>
        rw [Option.map_eq_some_iff]
        constructor
        · rintro ⟨a, h1, h2⟩
          obtain rfl : a = i := by omega
          obtain ⟨h3, h4⟩ := first_some.1 h1
          refine ⟨by simpa using h3, fun j x hj hx => ?_⟩
          cases j with
          | zero => simp at hx; rw [← hx]; exact h
          | succ j => exact h4 j x (by omega) (by simpa using hx)
        · rintro ⟨h3, h4⟩
          exact ⟨i, first_some.2 ⟨by simpa using h3, fun j x hj hx => h4 (j + 1) x (by omega) (by simpa using hx)⟩, rfl⟩
theorem first_lt {L : List Op5} {t : Int} {i : Nat} (h : first L t = some i) : i < L.length := by
  obtain ⟨⟨x, hx, -⟩, -⟩ := first_some.1 h
  exact (List.getElem?_eq_some_iff.1 hx).1
theorem first_none : ∀ {L : List Op5} {t : Int}, first L t = none ↔ ∀ (j : Nat) (x : Op5), L[j]? = some x → x.t ≠ t
  | [], t => by simp [first]
  | y :: r, t => by
    unfold first
    by_cases h : y.t = t
    · rw [if_pos h]
      simp only [reduceCtorEq, false_iff]
      exact fun h2 => h2 0 y rfl h
    · rw [if_neg h, Option.map_eq_none_iff, first_none]
      constructor
      · intro h2 j x hx
        cases j with
        | zero => simp at hx; rw [← hx]; exact h
        | succ j => exact h2 j x (by simpa using hx)
      · exact fun h2 j x hx => h2 (j + 1) x (by simpa using hx)
/-- Rising, each once. -/
def rise (l : List Nat) : List Nat := (List.range (l.foldr max 0 + 1)).filter (fun x => decide (x ∈ l))
theorem le_foldr : ∀ {l : List Nat} {x : Nat}, x ∈ l → x ≤ l.foldr max 0
  | a :: r, x, h => by
    rcases List.mem_cons.1 h with rfl | h
    · exact Nat.le_max_left _ _
    · exact Nat.le_trans (le_foldr h) (Nat.le_max_right _ _)
theorem mem_rise {l : List Nat} {x : Nat} : x ∈ rise l ↔ x ∈ l := by
  unfold rise
  rw [List.mem_filter, List.mem_range]
  simp only [decide_eq_true_eq]
  exact ⟨fun h => h.2, fun h => ⟨by have := le_foldr h; omega, h⟩⟩
theorem range_lt (n : Nat) : (List.range n).Pairwise (· < ·) := List.pairwise_lt_range
theorem rise_lt (l : List Nat) : (rise l).Pairwise (· < ·) := (range_lt _).sublist List.filter_sublist
/-- Lists that rise and have the same members are the same. -/
theorem eq_of_lt : ∀ {a b : List Nat}, a.Pairwise (· < ·) → b.Pairwise (· < ·) → (∀ x, x ∈ a ↔ x ∈ b) → a = b
  | [], [], _, _, _ => rfl
  | [], y :: b, _, _, h => absurd ((h y).2 (by simp)) (by simp)
  | x :: a, [], _, _, h => absurd ((h x).1 (by simp)) (by simp)
  | x :: a, y :: b, ha, hb, h => by
    have hx := List.pairwise_cons.1 ha
    have hy := List.pairwise_cons.1 hb
    have e : x = y := by
      have h1 := (h x).1 (by simp)
      have h2 := (h y).2 (by simp)
      rcases List.mem_cons.1 h1 with h1 | h1
      · exact h1
      · rcases List.mem_cons.1 h2 with h2 | h2
        · exact h2.symm
        · have := hx.1 y h2; have := hy.1 x h1; omega
    subst e
    refine congrArg _ (eq_of_lt hx.2 hy.2 fun z => ?_)
    have hz := h z
    simp only [List.mem_cons] at hz
    constructor
    · intro hm
      rcases hz.1 (.inr hm) with rfl | h3
      · have := hx.1 z hm; omega
      · exact h3
    · intro hm
      rcases hz.2 (.inr hm) with rfl | h3
      · have := hy.1 z hm; omega
      · exact h3
theorem rise_eq {l r : List Nat} (hr : r.Pairwise (· < ·)) (h : ∀ x, x ∈ r ↔ x ∈ l) : rise l = r := eq_of_lt (rise_lt l) hr fun x => mem_rise.trans (h x).symm
theorem len_le : ∀ {a b : List Nat}, a.Nodup → (∀ x ∈ a, x ∈ b) → a.length ≤ b.length
  | [], _, _, _ => by simp
  | x :: a, b, hn, h => by
    have hc := List.nodup_cons.1 hn
    have hx := h x (by simp)
    have := len_le (b := b.erase x) hc.2 (fun y hy => (List.mem_erase_of_ne (show y ≠ x from fun e => hc.1 (by rw [← e]; exact hy))).2 (h y (by simp [hy])))
    rw [List.length_erase_of_mem hx] at this
    have hl := List.length_pos_of_mem hx
    rw [List.length_cons]
    omega
theorem rise_len (l : List Nat) : (rise l).length ≤ l.length := by
  have h1 : (rise l).Nodup := (rise_lt l).imp (fun h => by omega)
  exact len_le h1 (fun x hx => mem_rise.1 hx)
theorem rise_same {l r : List Nat} (h : ∀ x, x ∈ l ↔ x ∈ r) : rise l = rise r := rise_eq (rise_lt r) fun x => mem_rise.trans (h x).symm
/-- Where an operation may jump to. -/
def tgt (L : List Op5) (i : Nat) : Option Nat := match L[i]? with | some x => if jmp x.k = true then first L x.o else none | none => none
/-- What comes behind an operation, if it goes on. -/
def beh (L : List Op5) (i : Nat) : List Nat := match L[i]? with | some x => if stp x.k = false ∧ i + 1 < L.length then [i + 1] else [] | none => []
def raw (L : List Op5) (i : Nat) : List Nat := beh L i ++ (tgt L i).toList
def nexts (L : List Op5) (i : Nat) : List Nat := rise (raw L i)
theorem tgt_lt {L : List Op5} {i j : Nat} (h : tgt L i = some j) : j < L.length := by
  unfold tgt at h
  split at h
  · split at h
    · exact first_lt h
    · cases h
  · cases h
theorem nexts_lt {L : List Op5} {i j : Nat} (h : j ∈ nexts L i) : j < L.length := by
  rw [nexts, mem_rise, raw, List.mem_append] at h
  rcases h with h | h
  · unfold beh at h
    split at h
    · split at h
      · simp at h; omega
      · simp at h
    · simp at h
  · exact tgt_lt (by simpa using h)
theorem raw_len (L : List Op5) (i : Nat) : (raw L i).length ≤ 2 := by
  unfold raw beh
  rw [List.length_append]
  have h1 : (tgt L i).toList.length ≤ 1 := by cases tgt L i <;> simp
  split
  · split <;> simp <;> omega
  · simp; omega
theorem nexts_len (L : List Op5) (i : Nat) : (nexts L i).length ≤ 2 := Nat.le_trans (rise_len _) (raw_len L i)
/-- Blocks: B tells of each place whether one begins there. -/
def cnt (B : Nat → Bool) (i : Nat) : Nat := ((List.range i).filter B).length
theorem cnt_succ (B : Nat → Bool) (i : Nat) : cnt B (i + 1) = cnt B i + if B i = true then 1 else 0 := by
  unfold cnt
  rw [List.range_succ, List.filter_append, List.length_append]
  by_cases h : B i = true <;> simp [h]
theorem cnt_mono (B : Nat → Bool) {i j : Nat} (h : i ≤ j) : cnt B i ≤ cnt B j := by
  induction j with
  | zero => obtain rfl : i = 0 := by omega
            exact Nat.le_refl _
  | succ j ih =>
    by_cases e : i = j + 1
    · rw [e]; exact Nat.le_refl _
    · exact Nat.le_trans (ih (by omega)) (by rw [cnt_succ]; omega)
theorem cnt_le (B : Nat → Bool) (i : Nat) : cnt B i ≤ i := by
  unfold cnt
  exact Nat.le_trans (List.length_filter_le _ _) (by simp)
theorem cnt_pos {B : Nat → Bool} (h0 : B 0 = true) {i : Nat} (hi : 0 < i) : 0 < cnt B i := by
  have := cnt_mono B (i := 1) (j := i) (by omega)
  have e : cnt B 1 = 1 := by simp [cnt, List.range_succ, h0]
  omega
/-- The block in which a place stands. -/
def ofB (B : Nat → Bool) (i : Nat) : Nat := cnt B (i + 1) - 1
def sts (B : Nat → Bool) (i : Nat) : List Nat := (List.range i).filter B
def frI (B : Nat → Bool) (i b : Nat) : Nat := (sts B i)[b]?.getD 0
def toI (B : Nat → Bool) (i b : Nat) : Nat := (sts B i)[b + 1]?.getD i
theorem sts_len (B : Nat → Bool) (i : Nat) : (sts B i).length = cnt B i := rfl
theorem sts_yes {B : Nat → Bool} {i : Nat} (h : B i = true) : sts B (i + 1) = sts B i ++ [i] := by
  unfold sts
  rw [List.range_succ, List.filter_append]
  simp [h]
theorem sts_no {B : Nat → Bool} {i : Nat} (h : B i = false) : sts B (i + 1) = sts B i := by
  unfold sts
  rw [List.range_succ, List.filter_append]
  simp [h]
theorem ofB_lt {B : Nat → Bool} (h0 : B 0 = true) {n i : Nat} (h : i < n) : ofB B i < cnt B n := by
  unfold ofB
  have h1 := cnt_pos h0 (i := i + 1) (by omega)
  have h2 := cnt_mono B (i := i + 1) (j := n) (by omega)
  omega
/-- Where the beginnings stand. -/
theorem sts_at {B : Nat → Bool} {n b x : Nat} : (sts B n)[b]? = some x ↔ x < n ∧ B x = true ∧ cnt B x = b := by
  induction n with
  | zero => simp [sts]
  | succ n ih =>
    cases hB : B n with
    | true =>
      rw [sts_yes hB]
      by_cases hb : b < (sts B n).length
      · rw [List.getElem?_append_left hb, ih]
        constructor
        · rintro ⟨h1, h2⟩; exact ⟨by omega, h2⟩
        · rintro ⟨h1, h2, h3⟩
          refine ⟨?_, h2, h3⟩
          by_cases e : x = n
          · subst e
            rw [sts_len] at hb
            omega
          · omega
      · rw [List.getElem?_append_right (by omega)]
        rw [sts_len] at hb ⊢
        constructor
        · intro h
          have h2 := (List.getElem?_eq_some_iff.1 h).1
          have e : b - cnt B n = 0 := by simpa using h2
          rw [e] at h
          obtain rfl : n = x := by simpa using h
          exact ⟨by omega, hB, by omega⟩
        · rintro ⟨h1, h2, h3⟩
          by_cases e : x = n
          · subst e
            rw [h3]
            simp
          · have := cnt_mono B (i := x + 1) (j := n) (by omega)
            rw [cnt_succ, if_pos h2] at this
            omega
    | false =>
      rw [sts_no hB, ih]
      constructor
      · rintro ⟨h1, h2⟩; exact ⟨by omega, h2⟩
      · rintro ⟨h1, h2, h3⟩
        refine ⟨?_, h2, h3⟩
        by_cases e : x = n
        · subst e; rw [hB] at h2; cases h2
        · omega
theorem fr_is {B : Nat → Bool} {n b : Nat} (hb : b < cnt B n) : frI B n b < n ∧ B (frI B n b) = true ∧ cnt B (frI B n b) = b := by
  obtain ⟨x, hx⟩ : ∃ x, (sts B n)[b]? = some x := ⟨_, List.getElem?_eq_getElem hb⟩
  have := sts_at.1 hx
  unfold frI
  rw [hx]
  exact this
theorem to_is {B : Nat → Bool} {n b : Nat} (hb : b + 1 < cnt B n) : toI B n b = frI B n (b + 1) := by
  obtain ⟨x, hx⟩ : ∃ x, (sts B n)[b + 1]? = some x := ⟨_, List.getElem?_eq_getElem hb⟩
  unfold toI frI
  rw [hx]
  rfl
theorem to_last {B : Nat → Bool} {n b : Nat} (hb : cnt B n ≤ b + 1) : toI B n b = n := by
  unfold toI
  rw [List.getElem?_eq_none (by rw [sts_len]; exact hb)]
  rfl
theorem cnt_gt {B : Nat → Bool} {x y : Nat} (h : cnt B x < cnt B y) : x < y := by
  refine Nat.lt_of_not_le fun h2 => ?_
  have := cnt_mono B h2
  omega
theorem to_le {B : Nat → Bool} {n b : Nat} (hb : b < cnt B n) : frI B n b < toI B n b ∧ toI B n b ≤ n := by
  have h1 := fr_is hb
  by_cases h : b + 1 < cnt B n
  · have h2 := fr_is h
    rw [to_is h]
    exact ⟨cnt_gt (B := B) (by omega), by omega⟩
  · rw [to_last (by omega)]
    omega
end Go.Proofs.Ytdodobpbdnpjiaa.Cf
namespace Go.Proofs.Ytdodobpbdnpjiaa
open Go.Shelf
/-- SortFunc at numbers. -/
def Sh.sort_ren : Go.Shelf.Ren := ⟨fun | 6 => 38 | 14 => 55 | 15 => 54 | 20 => 73 | 21 => 74 | 22 => 75 | 23 => 76 | 24 => 77 | 25 => 78 | 26 => 79 | 27 => 80 | 28 => 71 | 29 => 72 | 46 => 92 | 47 => 88 | 48 => 89 | 49 => 93 | 50 => 94 | 57 => 104 | n => n, fun | 0 => 0 | 3 => 3 | 4 => 4 | 5 => 5 | 9 => 9 | 22 => 34 | 24 => 3 | 25 => 83 | 39 => 96 | 45 => 104 | 46 => 105 | 50 => 37 | 53 => 111 | 55 => 113 | 66 => 125 | 70 => 129 | 76 => 138 | 77 => 139 | n => n, fun | n => n⟩
theorem Sh.sort : Go.Proofs.SlLaysF.n6 Try.prog Sh.sort_ren := {
  mixed := by kernel_rfl
  f6 := ⟨"slices.SortFunc[[]int,int]", by decide, Try.func38.trans (congrArg some (by kernel_rfl))⟩
  f14 := ⟨"slices.pdqsortCmpFunc[int]", by decide, Try.func55.trans (congrArg some (by kernel_rfl))⟩
  f15 := Try.func54.trans (congrArg some (by kernel_rfl))
  f20 := ⟨"slices.insertionSortCmpFunc[int]", by decide, Try.func73.trans (congrArg some (by kernel_rfl))⟩
  f21 := ⟨"slices.heapSortCmpFunc[int]", by decide, Try.func74.trans (congrArg some (by kernel_rfl))⟩
  f22 := ⟨"slices.breakPatternsCmpFunc[int]", by decide, Try.func75.trans (congrArg some (by kernel_rfl))⟩
  f23 := ⟨"slices.choosePivotCmpFunc[int]", by decide, Try.func76.trans (congrArg some (by kernel_rfl))⟩
  f24 := ⟨"slices.reverseRangeCmpFunc[int]", by decide, Try.func77.trans (congrArg some (by kernel_rfl))⟩
  f25 := ⟨"slices.partialInsertionSortCmpFunc[int]", by decide, Try.func78.trans (congrArg some (by kernel_rfl))⟩
  f26 := ⟨"slices.partitionEqualCmpFunc[int]", by decide, Try.func79.trans (congrArg some (by kernel_rfl))⟩
  f27 := ⟨"slices.partitionCmpFunc[int]", by decide, Try.func80.trans (congrArg some (by kernel_rfl))⟩
  f28 := Try.func71.trans (congrArg some (by kernel_rfl))
  f29 := Try.func72.trans (congrArg some (by kernel_rfl))
  f46 := ⟨"slices.siftDownCmpFunc[int]", by decide, Try.func92.trans (congrArg some (by kernel_rfl))⟩
  f47 := Try.func88.trans (congrArg some (by kernel_rfl))
  f48 := Try.func89.trans (congrArg some (by kernel_rfl))
  f49 := ⟨"slices.medianAdjacentCmpFunc[int]", by decide, Try.func93.trans (congrArg some (by kernel_rfl))⟩
  f50 := ⟨"slices.medianCmpFunc[int]", by decide, Try.func94.trans (congrArg some (by kernel_rfl))⟩
  f57 := ⟨"slices.order2CmpFunc[int]", by decide, Try.func104.trans (congrArg some (by kernel_rfl))⟩
  t0 := Try.underlying0
  a0 := Try.isAgg0
  z0 := Try.sizeOf0
  v0 := Try.zeroValue0
  t3 := Try.underlying3
  a3 := Try.isAgg3
  z3 := Try.sizeOf3
  v3 := Try.zeroValue3
  t4 := Try.underlying4
  a4 := Try.isAgg4
  z4 := Try.sizeOf4
  v4 := Try.zeroValue4
  t5 := Try.underlying5
  a5 := Try.isAgg5
  z5 := Try.sizeOf5
  v5 := Try.zeroValue5
  t9 := Try.underlying9
  a9 := Try.isAgg9
  z9 := Try.sizeOf9
  v9 := Try.zeroValue9
  t22 := Try.underlying34
  a22 := Try.isAgg34
  z22 := Try.sizeOf34
  v22 := Try.zeroValue34
  a24 := Try.isAgg3
  z24 := Try.sizeOf3
  t25 := Try.underlying83
  a25 := Try.isAgg83
  z25 := Try.sizeOf83
  v25 := Try.zeroValue83
  t39 := Try.underlying96
  a39 := Try.isAgg96
  z39 := Try.sizeOf96
  v39 := Try.zeroValue96
  t45 := Try.underlying104
  a45 := Try.isAgg104
  z45 := Try.sizeOf104
  v45 := Try.zeroValue104
  t46 := Try.underlying105
  a46 := Try.isAgg105
  z46 := Try.sizeOf105
  v46 := Try.zeroValue105
  t50 := Try.underlying37
  a50 := Try.isAgg37
  z50 := Try.sizeOf37
  v50 := Try.zeroValue37
  t53 := Try.underlying111
  a53 := Try.isAgg111
  z53 := Try.sizeOf111
  v53 := Try.zeroValue111
  t55 := Try.underlying113
  a55 := Try.isAgg113
  z55 := Try.sizeOf113
  v55 := Try.zeroValue113
  t66 := Try.underlying125
  a66 := Try.isAgg125
  z66 := Try.sizeOf125
  v66 := Try.zeroValue125
  t70 := Try.underlying129
  a70 := Try.isAgg129
  z70 := Try.sizeOf129
  v70 := Try.zeroValue129
  t76 := Try.underlying138
  a76 := Try.isAgg138
  z76 := Try.sizeOf138
  v76 := Try.zeroValue138
  t77 := Try.underlying139
  a77 := Try.isAgg139
  z77 := Try.sizeOf139
  v77 := Try.zeroValue139 }
/-- SortFunc at spans. -/
def Sh.sortS_ren : Go.Shelf.Ren := ⟨fun | 6 => 58 | 14 => 83 | 15 => 54 | 20 => 95 | 21 => 96 | 22 => 97 | 23 => 98 | 24 => 99 | 25 => 100 | 26 => 101 | 27 => 102 | 28 => 71 | 29 => 72 | 46 => 105 | 47 => 88 | 48 => 89 | 49 => 106 | 50 => 107 | 57 => 108 | n => n, fun | 0 => 0 | 3 => 3 | 4 => 4 | 5 => 5 | 9 => 9 | 22 => 88 | 24 => 91 | 25 => 99 | 39 => 96 | 45 => 104 | 46 => 105 | 50 => 37 | 53 => 111 | 55 => 113 | 66 => 125 | 70 => 129 | 76 => 138 | 77 => 139 | n => n, fun | n => n⟩
theorem Sh.sortS : Go.Proofs.SlLaysF0.n6 Try.prog Sh.sortS_ren := {
  mixed := by kernel_rfl
  f6 := ⟨"slices.SortFunc[[]tabard/cfg.span,tabard/cfg.span]", by decide, Try.func58.trans (congrArg some (by kernel_rfl))⟩
  f14 := ⟨"slices.pdqsortCmpFunc[tabard/cfg.span]", by decide, Try.func83.trans (congrArg some (by kernel_rfl))⟩
  f15 := Try.func54.trans (congrArg some (by kernel_rfl))
  f20 := ⟨"slices.insertionSortCmpFunc[tabard/cfg.span]", by decide, Try.func95.trans (congrArg some (by kernel_rfl))⟩
  f21 := ⟨"slices.heapSortCmpFunc[tabard/cfg.span]", by decide, Try.func96.trans (congrArg some (by kernel_rfl))⟩
  f22 := ⟨"slices.breakPatternsCmpFunc[tabard/cfg.span]", by decide, Try.func97.trans (congrArg some (by kernel_rfl))⟩
  f23 := ⟨"slices.choosePivotCmpFunc[tabard/cfg.span]", by decide, Try.func98.trans (congrArg some (by kernel_rfl))⟩
  f24 := ⟨"slices.reverseRangeCmpFunc[tabard/cfg.span]", by decide, Try.func99.trans (congrArg some (by kernel_rfl))⟩
  f25 := ⟨"slices.partialInsertionSortCmpFunc[tabard/cfg.span]", by decide, Try.func100.trans (congrArg some (by kernel_rfl))⟩
  f26 := ⟨"slices.partitionEqualCmpFunc[tabard/cfg.span]", by decide, Try.func101.trans (congrArg some (by kernel_rfl))⟩
  f27 := ⟨"slices.partitionCmpFunc[tabard/cfg.span]", by decide, Try.func102.trans (congrArg some (by kernel_rfl))⟩
  f28 := Try.func71.trans (congrArg some (by kernel_rfl))
  f29 := Try.func72.trans (congrArg some (by kernel_rfl))
  f46 := ⟨"slices.siftDownCmpFunc[tabard/cfg.span]", by decide, Try.func105.trans (congrArg some (by kernel_rfl))⟩
  f47 := Try.func88.trans (congrArg some (by kernel_rfl))
  f48 := Try.func89.trans (congrArg some (by kernel_rfl))
  f49 := ⟨"slices.medianAdjacentCmpFunc[tabard/cfg.span]", by decide, Try.func106.trans (congrArg some (by kernel_rfl))⟩
  f50 := ⟨"slices.medianCmpFunc[tabard/cfg.span]", by decide, Try.func107.trans (congrArg some (by kernel_rfl))⟩
  f57 := ⟨"slices.order2CmpFunc[tabard/cfg.span]", by decide, Try.func108.trans (congrArg some (by kernel_rfl))⟩
  t0 := Try.underlying0
  a0 := Try.isAgg0
  z0 := Try.sizeOf0
  v0 := Try.zeroValue0
  t3 := Try.underlying3
  a3 := Try.isAgg3
  z3 := Try.sizeOf3
  v3 := Try.zeroValue3
  t4 := Try.underlying4
  a4 := Try.isAgg4
  z4 := Try.sizeOf4
  v4 := Try.zeroValue4
  t5 := Try.underlying5
  a5 := Try.isAgg5
  z5 := Try.sizeOf5
  v5 := Try.zeroValue5
  t9 := Try.underlying9
  a9 := Try.isAgg9
  z9 := Try.sizeOf9
  v9 := Try.zeroValue9
  t22 := Try.underlying88
  a22 := Try.isAgg88
  z22 := Try.sizeOf88
  v22 := Try.zeroValue88
  t25 := Try.underlying99
  a25 := Try.isAgg99
  z25 := Try.sizeOf99
  v25 := Try.zeroValue99
  t39 := Try.underlying96
  a39 := Try.isAgg96
  z39 := Try.sizeOf96
  v39 := Try.zeroValue96
  t45 := Try.underlying104
  a45 := Try.isAgg104
  z45 := Try.sizeOf104
  v45 := Try.zeroValue104
  t46 := Try.underlying105
  a46 := Try.isAgg105
  z46 := Try.sizeOf105
  v46 := Try.zeroValue105
  t50 := Try.underlying37
  a50 := Try.isAgg37
  z50 := Try.sizeOf37
  v50 := Try.zeroValue37
  t53 := Try.underlying111
  a53 := Try.isAgg111
  z53 := Try.sizeOf111
  v53 := Try.zeroValue111
  t55 := Try.underlying113
  a55 := Try.isAgg113
  z55 := Try.sizeOf113
  v55 := Try.zeroValue113
  t66 := Try.underlying125
  a66 := Try.isAgg125
  z66 := Try.sizeOf125
  v66 := Try.zeroValue125
  t70 := Try.underlying129
  a70 := Try.isAgg129
  z70 := Try.sizeOf129
  v70 := Try.zeroValue129
  t76 := Try.underlying138
  a76 := Try.isAgg138
  z76 := Try.sizeOf138
  v76 := Try.zeroValue138
  t77 := Try.underlying139
  a77 := Try.isAgg139
  z77 := Try.sizeOf139
  v77 := Try.zeroValue139 }
/-- BinarySearchFunc at numbers. -/
def Sh.bsearch_ren : Go.Shelf.Ren := ⟨fun | 14 => 81 | n => n, fun | 0 => 0 | 3 => 3 | 4 => 4 | 22 => 34 | 24 => 3 | 29 => 3 | 32 => 83 | 35 => 96 | n => n, fun | n => n⟩
theorem Sh.bsearch : Go.Proofs.SlLaysG2.n14 Try.prog Sh.bsearch_ren := {
  mixed := by kernel_rfl
  f14 := ⟨"slices.BinarySearchFunc[[]int,int,int]", by decide, Try.func81.trans (congrArg some (by kernel_rfl))⟩
  t0 := Try.underlying0
  a0 := Try.isAgg0
  z0 := Try.sizeOf0
  v0 := Try.zeroValue0
  t3 := Try.underlying3
  a3 := Try.isAgg3
  z3 := Try.sizeOf3
  v3 := Try.zeroValue3
  t4 := Try.underlying4
  a4 := Try.isAgg4
  z4 := Try.sizeOf4
  v4 := Try.zeroValue4
  t22 := Try.underlying34
  a22 := Try.isAgg34
  z22 := Try.sizeOf34
  v22 := Try.zeroValue34
  a24 := Try.isAgg3
  z24 := Try.sizeOf3
  a29 := Try.isAgg3
  z29 := Try.sizeOf3
  t32 := Try.underlying83
  a32 := Try.isAgg83
  z32 := Try.sizeOf83
  v32 := Try.zeroValue83
  t35 := Try.underlying96
  a35 := Try.isAgg96
  z35 := Try.sizeOf96
  v35 := Try.zeroValue96 }
end Go.Proofs.Ytdodobpbdnpjiaa
namespace Go.Proofs.Ytdodobpbdnpjiaa
open Go.Shelf
def Sh.lays189_ren : Go.Shelf.Ren := ⟨fun | 189 => 32 | 125 => 54 | 257 => 53 | 128 => 71 | 129 => 72 | 294 => 62 | 295 => 63 | 296 => 64 | 297 => 65 | 298 => 66 | 299 => 67 | 216 => 68 | 300 => 69 | 301 => 70 | 328 => 87 | 329 => 88 | 330 => 89 | 331 => 90 | 332 => 91 | 215 => 56 | 343 => 103 | n => n, fun | 28 => 34 | 3 => 3 | 46 => 96 | 0 => 0 | 51 => 111 | 53 => 113 | 4 => 4 | 183 => 105 | 182 => 104 | 131 => 37 | 5 => 5 | 9 => 9 | 218 => 125 | 222 => 129 | 228 => 138 | 229 => 139 | n => n, fun | n => n⟩
theorem Sh.lays189 : Go.Proofs.Lays.n189 Try.prog Sh.lays189_ren := {
  mixed := by kernel_rfl
  f125 := Try.func54.trans (congrArg some (by kernel_rfl))
  f128 := Try.func71.trans (congrArg some (by kernel_rfl))
  f129 := Try.func72.trans (congrArg some (by kernel_rfl))
  f189 := Try.func32.trans (congrArg some (by kernel_rfl))
  f215 := Try.func56.trans (congrArg some (by kernel_rfl))
  f216 := Try.func68.trans (congrArg some (by kernel_rfl))
  f257 := Try.func53.trans (congrArg some (by kernel_rfl))
  f294 := Try.func62.trans (congrArg some (by kernel_rfl))
  f295 := Try.func63.trans (congrArg some (by kernel_rfl))
  f296 := Try.func64.trans (congrArg some (by kernel_rfl))
  f297 := Try.func65.trans (congrArg some (by kernel_rfl))
  f298 := Try.func66.trans (congrArg some (by kernel_rfl))
  f299 := Try.func67.trans (congrArg some (by kernel_rfl))
  f300 := Try.func69.trans (congrArg some (by kernel_rfl))
  f301 := Try.func70.trans (congrArg some (by kernel_rfl))
  f328 := Try.func87.trans (congrArg some (by kernel_rfl))
  f329 := Try.func88.trans (congrArg some (by kernel_rfl))
  f330 := Try.func89.trans (congrArg some (by kernel_rfl))
  f331 := Try.func90.trans (congrArg some (by kernel_rfl))
  f332 := Try.func91.trans (congrArg some (by kernel_rfl))
  f343 := Try.func103.trans (congrArg some (by kernel_rfl))
  t0 := Try.underlying0
  a0 := Try.isAgg0
  z0 := Try.sizeOf0
  v0 := Try.zeroValue0
  t3 := Try.underlying3
  a3 := Try.isAgg3
  z3 := Try.sizeOf3
  v3 := Try.zeroValue3
  t4 := Try.underlying4
  a4 := Try.isAgg4
  z4 := Try.sizeOf4
  v4 := Try.zeroValue4
  t5 := Try.underlying5
  a5 := Try.isAgg5
  z5 := Try.sizeOf5
  v5 := Try.zeroValue5
  t9 := Try.underlying9
  a9 := Try.isAgg9
  z9 := Try.sizeOf9
  v9 := Try.zeroValue9
  t28 := Try.underlying34
  a28 := Try.isAgg34
  z28 := Try.sizeOf34
  v28 := Try.zeroValue34
  t46 := Try.underlying96
  a46 := Try.isAgg96
  z46 := Try.sizeOf96
  v46 := Try.zeroValue96
  t51 := Try.underlying111
  a51 := Try.isAgg111
  z51 := Try.sizeOf111
  v51 := Try.zeroValue111
  t53 := Try.underlying113
  a53 := Try.isAgg113
  z53 := Try.sizeOf113
  v53 := Try.zeroValue113
  t131 := Try.underlying37
  a131 := Try.isAgg37
  z131 := Try.sizeOf37
  v131 := Try.zeroValue37
  t182 := Try.underlying104
  a182 := Try.isAgg104
  z182 := Try.sizeOf104
  v182 := Try.zeroValue104
  t183 := Try.underlying105
  a183 := Try.isAgg105
  z183 := Try.sizeOf105
  v183 := Try.zeroValue105
  t218 := Try.underlying125
  a218 := Try.isAgg125
  z218 := Try.sizeOf125
  v218 := Try.zeroValue125
  t222 := Try.underlying129
  a222 := Try.isAgg129
  z222 := Try.sizeOf129
  v222 := Try.zeroValue129
  t228 := Try.underlying138
  a228 := Try.isAgg138
  z228 := Try.sizeOf138
  v228 := Try.zeroValue138
  t229 := Try.underlying139
  a229 := Try.isAgg139
  z229 := Try.sizeOf139
  v229 := Try.zeroValue139 }
open Go.Sort Go.RowKit in
theorem Sh.slices_Sort_int (blk off cap : Nat) (zs : List Int) (w : World) (hH : Holds (Value.int .i64) w blk off zs.toArray) (hblk : blk < w.heap.size) (hsz : zs.length < 4611686018427387904) :
    Calls Try.prog 32 #[.slice (some ⟨blk, off, none⟩) zs.length cap] w fun e w' =>
      e = .returned (.tuple #[]) ∧ ∃ n os, w' = grow (putRow (Value.int .i64) (Sort.ahead w n) blk off (zs.mergeSort fun x y => decide (x ≤ y)).toArray) os := Any.slices_Sort_int Sh.lays189 blk off cap zs w hH hblk hsz
def Sh.lays112_ren : Go.Shelf.Ren := ⟨fun | 112 => 50 | n => n, fun | 28 => 34 | 3 => 3 | 4 => 4 | 0 => 0 | n => n, fun | n => n⟩
theorem Sh.lays112 : Go.Proofs.Lays.n112 Try.prog Sh.lays112_ren := {
  mixed := by kernel_rfl
  f112 := Try.func50.trans (congrArg some (by kernel_rfl))
  t0 := Try.underlying0
  a0 := Try.isAgg0
  z0 := Try.sizeOf0
  v0 := Try.zeroValue0
  t3 := Try.underlying3
  a3 := Try.isAgg3
  z3 := Try.sizeOf3
  v3 := Try.zeroValue3
  t4 := Try.underlying4
  a4 := Try.isAgg4
  z4 := Try.sizeOf4
  v4 := Try.zeroValue4
  t28 := Try.underlying34
  a28 := Try.isAgg34
  z28 := Try.sizeOf34
  v28 := Try.zeroValue34 }
open Go.RowKit Go.Lib Go.Sort in
theorem Sh.slices_Reverse_int (blk off cap : Nat) (zs : List Int) (w : World) (hH : Holds (Value.int .i64) w blk off zs.toArray) (hsz : zs.length ≤ 9223372036854775807) :
    Calls Try.prog 50 #[.slice (some ⟨blk, off, none⟩) zs.length cap] w fun e w' => e = .returned (.tuple #[]) ∧ ∃ n, w' = putRow (Value.int .i64) (Sort.ahead w n) blk off zs.reverse.toArray := Any.slices_Reverse_int Sh.lays112 blk off cap zs w hH hsz
open Go.RowKit Go.Lib Go.Sort in
theorem Sh.slices_Reverse_int_empty (a : Option Addr) (cap : Nat) (w : World) :
    Calls Try.prog 50 #[.slice a 0 cap] w fun e w' => e = .returned (.tuple #[]) ∧ w' = w := Any.slices_Reverse_int_empty Sh.lays112 a cap w
def Sh.lays111_ren : Go.Shelf.Ren := ⟨fun | 111 => 10 | n => n, fun | 28 => 34 | 3 => 3 | 4 => 4 | 0 => 0 | n => n, fun | n => n⟩
theorem Sh.lays111 : Go.Proofs.Lays.n111 Try.prog Sh.lays111_ren := {
  mixed := by kernel_rfl
  f111 := Try.func10.trans (congrArg some (by kernel_rfl))
  t0 := Try.underlying0
  a0 := Try.isAgg0
  z0 := Try.sizeOf0
  v0 := Try.zeroValue0
  t3 := Try.underlying3
  a3 := Try.isAgg3
  z3 := Try.sizeOf3
  v3 := Try.zeroValue3
  t4 := Try.underlying4
  a4 := Try.isAgg4
  z4 := Try.sizeOf4
  v4 := Try.zeroValue4
  t28 := Try.underlying34
  a28 := Try.isAgg34
  z28 := Try.sizeOf34
  v28 := Try.zeroValue34 }
open Go.RowKit Go.Lib in
theorem Sh.slices_Equal_int (b1 o1 n c b2 o2 m d : Nat) (xs ys : List Int) (w : World) (hx : n ≤ xs.length) (hy : m ≤ ys.length) (hbig : n ≤ 9223372036854775807) (hbig2 : m ≤ 9223372036854775807) (hc1 : ∀ j, j < xs.length → w.cell? ⟨b1, o1 + j, none⟩ = some (.int .i64 (xs.getD j 0))) (hc2 : ∀ j, j < ys.length → w.cell? ⟨b2, o2 + j, none⟩ = some (.int .i64 (ys.getD j 0))) :
    Calls Try.prog 10 #[.slice (some ⟨b1, o1, none⟩) n c, .slice (some ⟨b2, o2, none⟩) m d] w fun e w' => e = .returned (.bool (xs.take n == ys.take m)) ∧ ∃ q, w' = w.drewN q := Any.slices_Equal_int Sh.lays111 b1 o1 n c b2 o2 m d xs ys w hx hy hbig hbig2 hc1 hc2
open Go.RowKit Go.Lib in
theorem Sh.slices_Equal_int_empty (a1 a2 : Option Addr) (c m d : Nat) (w : World) (hbig2 : m ≤ 9223372036854775807) :
    Calls Try.prog 10 #[.slice a1 0 c, .slice a2 m d] w fun e w' => e = .returned (.bool (decide (m = 0))) ∧ w' = w := Any.slices_Equal_int_empty Sh.lays111 a1 a2 c m d w hbig2
def Sh.laysNm220_ren : Go.Shelf.Ren := ⟨fun | 20 => 33 | n => n, fun | 22 => 34 | 3 => 3 | 4 => 4 | 0 => 0 | n => n, fun | n => n⟩
theorem Sh.laysNm220 : Go.Proofs.Lays2.n20 Try.prog Sh.laysNm220_ren := {
  mixed := by kernel_rfl
  f20 := Try.func33.trans (congrArg some (by kernel_rfl))
  t0 := Try.underlying0
  a0 := Try.isAgg0
  z0 := Try.sizeOf0
  v0 := Try.zeroValue0
  t3 := Try.underlying3
  a3 := Try.isAgg3
  z3 := Try.sizeOf3
  v3 := Try.zeroValue3
  t4 := Try.underlying4
  a4 := Try.isAgg4
  z4 := Try.sizeOf4
  v4 := Try.zeroValue4
  t22 := Try.underlying34
  a22 := Try.isAgg34
  z22 := Try.sizeOf34
  v22 := Try.zeroValue34
  i3 := by kernel_rfl }
open Go.RowKit Go.Lib Go.Sort in
theorem Sh.slices_Compact_int (blk off cap : Nat) (zs : List Int) (w : World) (hH : Holds (Value.int .i64) w blk off zs.toArray) (hsz : zs.length ≤ 9223372036854775807) (hcap : zs.length ≤ cap) :
    Calls Try.prog 33 #[.slice (some ⟨blk, off, none⟩) zs.length cap] w fun e w' => e = .returned (.slice (some ⟨blk, off, none⟩) (Lib.compact zs).length cap) ∧ ∃ q, w' = putRow (Value.int .i64) (Sort.ahead w q) blk off (Lib.compact zs ++ List.replicate (zs.length - (Lib.compact zs).length) 0).toArray := Any.slices_Compact_int Sh.laysNm220 blk off cap zs w hH hsz hcap
open Go.RowKit Go.Lib Go.Sort in
theorem Sh.slices_Compact_int_empty (a : Option Addr) (cap : Nat) (w : World) :
    Calls Try.prog 33 #[.slice a 0 cap] w fun e w' => e = .returned (.slice a 0 cap) ∧ w' = w := Any.slices_Compact_int_empty Sh.laysNm220 a cap w
def Sh.lays212_ren : Go.Shelf.Ren := ⟨fun | 212 => 60 | 263 => 84 | 264 => 85 | n => n, fun | 46 => 96 | 51 => 111 | 146 => 121 | 53 => 113 | 148 => 123 | n => n, fun | n => n⟩
theorem Sh.lays212 : Go.Proofs.Lays.n212 Try.prog Sh.lays212_ren := {
  mixed := by kernel_rfl
  f212 := Try.func60.trans (congrArg some (by kernel_rfl))
  f263 := Try.func84.trans (congrArg some (by kernel_rfl))
  f264 := Try.func85.trans (congrArg some (by kernel_rfl))
  t46 := Try.underlying96
  a46 := Try.isAgg96
  z46 := Try.sizeOf96
  v46 := Try.zeroValue96
  t51 := Try.underlying111
  a51 := Try.isAgg111
  z51 := Try.sizeOf111
  v51 := Try.zeroValue111
  t53 := Try.underlying113
  a53 := Try.isAgg113
  z53 := Try.sizeOf113
  v53 := Try.zeroValue113
  t146 := Try.underlying121
  a146 := Try.isAgg121
  z146 := Try.sizeOf121
  v146 := Try.zeroValue121
  t148 := Try.underlying123
  a148 := Try.isAgg123
  z148 := Try.sizeOf123
  v148 := Try.zeroValue123 }
open Go.RowKit Go.Lib in
theorem Sh.bits_Mul (x y : Nat) (hx : x < 18446744073709551616) (hy : y < 18446744073709551616) (w : World) :
    Calls Try.prog 60 #[.int .u64 x, .int .u64 y] w fun e w' => e = .returned (.tuple #[.int .u64 ((x * y / 18446744073709551616 : Nat) : Int), .int .u64 ((x * y % 18446744073709551616 : Nat) : Int)]) ∧ w' = w := Any.bits_Mul Sh.lays212 x y hx hy w
end Go.Proofs.Ytdodobpbdnpjiaa
namespace Go.Proofs.Ytdodobpbdnpjiaa
open Go Go.RowKit
open Kit (natVals)

theorem sortW_chg {α : Type} [Inhabited α] (enc : α → Value) {w : World} {blk : Nat} (m : Nat) (d : Array α) (os : Array Obj) : Chg (fun i => i = blk) w (sortWorld enc w blk 0 m d os) := by
  refine ⟨rfl, rfl, rfl, ?_, fun k hk hne => ?_⟩
  · unfold sortWorld
    rw [Sort.size_grow, size_putRow]
    show w.heap.size ≤ w.heap.size + _
    omega
  · unfold sortWorld
    rw [Sort.heap_grow_old _ _ (by rw [size_putRow]; exact hk)]
    unfold Sort.putRow Sort.mapBlock
    simp only [Array.getElem?_modify]
    rw [if_neg (fun e => hne e.symm)]
    rfl
theorem sortW_own {α : Type} [Inhabited α] (enc : α → Value) {w : World} {base blk n cap : Nat} {e : TypeId} {xs : List Value} (h : w.ownsRow base e 1 (.slice (some ⟨blk, 0, none⟩) n cap) n xs) (m : Nat) (d : Array α) (os : Array Obj) (hd : d.size = n) :
    (sortWorld enc w blk 0 m d os).ownsRow base e 1 (.slice (some ⟨blk, 0, none⟩) n cap) n (d.toList.map enc) := by
  refine ⟨by simp [hd], .inr ?_⟩
  rcases h.2 with ⟨h2, -⟩ | ⟨g', cap', cur, hv, hg, hh, h1, h2, h3, h4⟩
  · cases h2
  · obtain ⟨e1, -, rfl⟩ := Value.slice.inj hv
    obtain rfl : blk = g' := by simpa using e1
    have hlt := (Array.getElem?_eq_some_iff.1 hh).1
    refine ⟨blk, cap, Sort.putCells enc 0 d cur, rfl, hg, ?_, h1, h2, by simp [Sort.putCells, h3], ?_⟩
    · unfold sortWorld
      rw [Sort.heap_grow_old _ _ (by rw [size_putRow]; exact hlt)]
      unfold Sort.putRow Sort.mapBlock
      simp only [Array.getElem?_modify]
      rw [if_pos trivial]
      show Option.map _ w.heap[blk]? = _
      rw [hh]
      rfl
    · apply List.ext_getElem?
      intro k
      rw [List.getElem?_take, List.getElem?_map]
      by_cases hk : k < n * 1
      · rw [if_pos hk]
        have hk2 : k < d.size := by omega
        have hk3 : k < cur.size := by rw [h3]; omega
        rw [Array.getElem?_toList]
        unfold Sort.putCells
        rw [Array.getElem?_mapIdx, Array.getElem?_eq_getElem hk3, Option.map_some, if_pos ⟨by omega, by omega⟩, Array.getElem?_toList, Array.getElem?_eq_getElem hk2, Option.map_some, Nat.sub_zero, getElem!_pos d k hk2]
      · rw [if_neg hk, Array.getElem?_toList, Array.getElem?_eq_none (by omega)]
        rfl
namespace Cf
def casts (l : List Nat) : List Int := l.map (fun n : Nat => (n : Int))
theorem casts_vals (l : List Nat) : (casts l).map (Value.int .i64) = natVals l := by unfold casts natVals; rw [List.map_map]; rfl
theorem casts_len (l : List Nat) : (casts l).length = l.length := by simp [casts]
theorem casts_back {z : List Int} (h : ∀ x ∈ z, 0 ≤ x) : casts (z.map Int.toNat) = z := by
  unfold casts
  rw [List.map_map]
  conv => rhs; rw [← List.map_id z]
  apply List.map_congr_left
  intro x hx
  have := h x hx
  show ((x.toNat : Nat) : Int) = x
  omega
theorem mem_casts {l : List Nat} {x : Int} : x ∈ casts l ↔ ∃ n ∈ l, (n : Int) = x := by unfold casts; rw [List.mem_map]
theorem casts_pos {l : List Nat} {x : Int} (h : x ∈ casts l) : 0 ≤ x := by obtain ⟨n, -, rfl⟩ := mem_casts.1 h; omega
/-- Put in order. -/
def srt (l : List Nat) : List Nat := ((casts l).mergeSort fun x y => decide (x ≤ y)).map Int.toNat
theorem srt_casts (l : List Nat) : casts (srt l) = (casts l).mergeSort fun x y => decide (x ≤ y) :=
  casts_back fun _ hx => casts_pos (List.mem_mergeSort.1 hx)
theorem srt_len (l : List Nat) : (srt l).length = l.length := by unfold srt; rw [List.length_map, List.length_mergeSort, casts_len]
theorem mem_srt {l : List Nat} {x : Nat} : x ∈ srt l ↔ x ∈ l := by
  have h : (x : Int) ∈ casts (srt l) ↔ (x : Int) ∈ casts l := by rw [srt_casts, List.mem_mergeSort]
  rw [mem_casts, mem_casts] at h
  constructor
  · intro hx; obtain ⟨n, hn, e⟩ := h.1 ⟨x, hx, rfl⟩; obtain rfl : n = x := by omega
    exact hn
  · intro hx; obtain ⟨n, hn, e⟩ := h.2 ⟨x, hx, rfl⟩; obtain rfl : n = x := by omega
    exact hn
theorem srt_le (l : List Nat) : (srt l).Pairwise (· ≤ ·) := by
  have h := List.pairwise_mergeSort (le := fun x y : Int => decide (x ≤ y)) (fun a b c h1 h2 => by simp at *; omega) (fun a b => by simp; omega) (casts l)
  rw [← srt_casts] at h
  unfold casts at h
  rw [List.pairwise_map] at h
  exact h.imp (fun h => by simpa using h)
theorem srt_nil : srt [] = [] := by rw [← List.length_eq_zero_iff, srt_len]; rfl
/-- What is compacted, where it was in order. -/
theorem compact_rise {l : List Nat} (h : l.Pairwise (· ≤ ·)) : Lib.compact (casts l) = casts (rise l) := by
  have hmem : ∀ x, x ∈ Lib.compact (casts l) → x ∈ casts l := by
    intro x hx
    unfold Lib.compact Lib.compactUpTo at hx
    obtain ⟨j, hj, rfl⟩ := List.mem_map.1 hx
    have hj2 := List.mem_range.1 (List.mem_filter.1 hj).1
    rw [getElem!_pos _ j (by simpa using hj2)]
    simp
  have hat : ∀ j, j < l.length → (casts l).toArray[j]! = ((l[j]?.getD 0 : Nat) : Int) := by
    intro j hj
    rw [getElem!_pos _ j (by simpa [casts] using hj)]
    simp [casts, List.getElem?_eq_getElem hj]
  have hsrt : ∀ i j, i ≤ j → j < l.length → l[i]?.getD 0 ≤ l[j]?.getD 0 := by
    intro i j hij hj
    by_cases e : i = j
    · rw [e]; exact Nat.le_refl _
    · have := (List.pairwise_iff_getElem.1 h) i j (by omega) hj (by omega)
      simpa [List.getElem?_eq_getElem hj, List.getElem?_eq_getElem (show i < l.length by omega)] using this
  have hback := casts_back (z := Lib.compact (casts l)) (fun x hx => casts_pos (hmem x hx))
  rw [← hback]
  congr 1
  refine (rise_eq ?_ fun x => ?_).symm
  · unfold Lib.compact Lib.compactUpTo
    rw [List.map_map, List.pairwise_map, List.pairwise_filter]
    refine (range_lt _).imp_of_mem fun {a b} ha hb hab ka kb => ?_
    rw [casts_len] at ha hb
    have hb2 := List.mem_range.1 hb
    show ((casts l).toArray[a]!).toNat < ((casts l).toArray[b]!).toNat
    rw [hat a (by omega), hat b hb2]
    unfold Lib.keeps at kb
    rw [hat b hb2, hat (b - 1) (by omega)] at kb
    simp only [decide_eq_true_eq] at kb
    have h1 := hsrt a (b - 1) (by omega) (by omega)
    have h2 := hsrt (b - 1) b (by omega) hb2
    omega
  · constructor
    · intro hx
      obtain ⟨y, hy, rfl⟩ := List.mem_map.1 hx
      obtain ⟨n, hn, rfl⟩ := mem_casts.1 (hmem y hy)
      exact hn
    · intro hx
      obtain ⟨i0, hi0, hx0⟩ := List.getElem_of_mem hx
      have hex : ∃ i, i < l.length ∧ l[i]?.getD 0 = x := ⟨i0, hi0, by rw [List.getElem?_eq_getElem hi0]; exact hx0⟩
      have key : ∀ d i, i ≤ d → i < l.length → l[i]?.getD 0 = x → ∃ j, j < l.length ∧ l[j]?.getD 0 = x ∧ (j = 0 ∨ l[j - 1]?.getD 0 ≠ x) := by
        intro d
        induction d with
        | zero => intro i hi h1 h2; obtain rfl : i = 0 := by omega
                  exact ⟨0, h1, h2, .inl rfl⟩
        | succ d ih =>
          intro i hi h1 h2
          by_cases e : i = 0 ∨ l[i - 1]?.getD 0 ≠ x
          · exact ⟨i, h1, h2, e⟩
          · refine ih (i - 1) (by omega) (by omega) ?_
            apply Classical.byContradiction
            intro e2
            exact e (.inr e2)
      obtain ⟨j, hj, hjx, hj0⟩ := key i0 i0 (Nat.le_refl _) hi0 (by rw [List.getElem?_eq_getElem hi0]; exact hx0)
      refine List.mem_map.2 ⟨(x : Int), ?_, by simp⟩
      unfold Lib.compact Lib.compactUpTo
      refine List.mem_map.2 ⟨j, List.mem_filter.2 ⟨List.mem_range.2 (by rw [casts_len]; exact hj), ?_⟩, ?_⟩
      · unfold Lib.keeps
        simp only [decide_eq_true_eq]
        rcases hj0 with h0 | h0
        · exact .inl h0
        · by_cases e : j = 0
          · exact .inl e
          · right
            rw [hat j hj, hat (j - 1) (by omega)]
            omega
      · rw [hat j hj, hjx]
end Cf
theorem holds_nats {w : World} {base g cap : Nat} {l : List Nat} (h : w.ownsRow base 3 1 (.slice (some ⟨g, 0, none⟩) l.length cap) l.length (natVals l)) : Sort.Holds (Value.int .i64) w g 0 (Cf.casts l).toArray := by
  intro j hj
  have hjl : j < l.length := by simpa [Cf.casts] using hj
  have := own_cell h (Kit.natVals_at (List.getElem?_eq_getElem hjl))
  rw [Nat.zero_add]
  refine ⟨?_, this.2⟩
  rw [this.1, getElem!_pos _ j hj]
  simp [Cf.casts]
def RowPost (base : Nat) (v : Value) (l : List Nat) (w w' : World) : Prop := w'.ownsRow base 3 1 v l.length (natVals l) ∧ Chg (fun i => v.ownBlock = some i) w w'
theorem sort_any {w : World} {base : Nat} {v : Value} {l : List Nat} (h : w.ownsRow base 3 1 v l.length (natVals l)) (hl : l.length ≤ 4294967296) :
    Calls Try.prog 32 #[v] w fun e w' => e = .returned (.tuple #[]) ∧ RowPost base v (Cf.srt l) w w' := by
  rcases h.2 with ⟨rfl, h0⟩ | ⟨g, cap, cur, rfl, hg, hh, -⟩
  · obtain rfl : l = [] := List.length_eq_zero_iff.1 h0
    refine (Any.slices_Sort_int_none Sh.lays189 none 0 w).mono ?_
    rintro e w' ⟨rfl, h2⟩
    obtain ⟨h3, h4⟩ : w' = w ∧ True := ⟨by simpa using h2, trivial⟩
    subst h3
    rw [RowPost, Cf.srt_nil]
    exact ⟨rfl, h, Chg.refl _ _⟩
  · have hc := Sh.slices_Sort_int g 0 cap (Cf.casts l) w (holds_nats h) (Array.getElem?_eq_some_iff.1 hh).1 (by rw [Cf.casts_len]; omega)
    rw [Cf.casts_len] at hc
    refine hc.mono ?_
    rintro e w' ⟨rfl, n, os, rfl⟩
    have h1 := sortW_own (Value.int .i64) h n ((Cf.casts l).mergeSort fun x y => decide (x ≤ y)).toArray os (by simp [Cf.casts_len])
    have h2 := sortW_chg (Value.int .i64) (w := w) (blk := g) n ((Cf.casts l).mergeSort fun x y => decide (x ≤ y)).toArray os
    rw [show (((Cf.casts l).mergeSort fun x y => decide (x ≤ y)).toArray.toList.map (Value.int .i64)) = natVals (Cf.srt l) by rw [← Cf.casts_vals, Cf.srt_casts]] at h1
    refine ⟨rfl, ?_, ?_⟩
    · rw [Cf.srt_len]; exact h1
    · exact h2.mono (fun i _ e => by rw [e]; rfl)
theorem own_pos {w : World} {base : Nat} {e : TypeId} {size : Nat} {v : Value} {n : Nat} {xs : List Value} (h : w.ownsRow base e size v n xs) (hn : 0 < n) : ∃ g cap, v = .slice (some ⟨g, 0, none⟩) n cap ∧ g < w.heap.size := by
  rcases h.2 with ⟨-, e⟩ | ⟨g, cap, cur, e, hg, hh, -⟩
  · omega
  · exact ⟨g, cap, e, (Array.getElem?_eq_some_iff.1 hh).1⟩
theorem below_app0 {w w' : World} (hg : w.grownBy w' (Value.slice none 0 0).ownBlock) : Below w.heap.size w w' := ⟨hg.os, hg.tape, hg.output, hg.size, fun k hk => hg.block k hk (by simp [Value.ownBlock])⟩
/-- A row cut to its first elements. -/
theorem owns_cut {w : World} {base : Nat} {e : TypeId} {size g n m cap : Nat} {xs : List Value} (h : w.ownsRow base e size (.slice (some ⟨g, 0, none⟩) n cap) n xs) (hm : m ≤ n) : w.ownsRow base e size (.slice (some ⟨g, 0, none⟩) m cap) m (xs.take (m * size)) := by
  obtain ⟨hl, h⟩ := h
  have hmn : m * size ≤ n * size := Nat.mul_le_mul_right _ hm
  refine ⟨by rw [List.length_take, hl]; omega, .inr ?_⟩
  rcases h with ⟨h2, -⟩ | ⟨g', cap', cur, hv, hg, hh, h1, h2, h3, h4⟩
  · cases h2
  · obtain ⟨e1, -, rfl⟩ := Value.slice.inj hv
    obtain rfl : g = g' := by simpa using e1
    refine ⟨g, cap, cur, rfl, hg, hh, by omega, h2, h3, ?_⟩
    rw [← h4, List.take_take, Nat.min_eq_left hmn]
theorem compact_any {w : World} {base : Nat} {v : Value} {l : List Nat} (h : w.ownsRow base 3 1 v l.length (natVals l)) (hl : l.length ≤ 4294967296) (hs : l.Pairwise (· ≤ ·)) :
    Calls Try.prog 33 #[v] w fun e w' => ∃ v', e = .returned v' ∧ w'.ownsRow base 3 1 v' (Cf.rise l).length (natVals (Cf.rise l)) ∧ Chg (fun i => v.ownBlock = some i) w w' ∧ v'.ownBlock = v.ownBlock := by
  rcases h.2 with ⟨rfl, h0⟩ | ⟨g, cap, cur, rfl, hg, hh, hc1, -⟩
  · obtain rfl : l = [] := List.length_eq_zero_iff.1 h0
    refine (Sh.slices_Compact_int_empty none 0 w).mono ?_
    rintro e w' ⟨rfl, rfl⟩
    exact ⟨_, rfl, h, Chg.refl _ _, rfl⟩
  · have hc := Sh.slices_Compact_int g 0 cap (Cf.casts l) w (holds_nats h) (by rw [Cf.casts_len]; omega) (by rw [Cf.casts_len]; exact hc1)
    rw [Cf.casts_len, Cf.compact_rise hs, Cf.casts_len] at hc
    refine hc.mono ?_
    rintro e w' ⟨rfl, n, rfl⟩
    have hrl := Cf.rise_len l
    obtain ⟨A, hA⟩ : ∃ A, (Cf.casts (Cf.rise l) ++ List.replicate (l.length - (Cf.rise l).length) (0 : Int)).toArray = A := ⟨_, rfl⟩
    have hAs : A.size = l.length := by rw [← hA]; simp [Cf.casts_len]; omega
    have h1 := sortW_own (Value.int .i64) h n A #[] hAs
    have h2 := sortW_chg (Value.int .i64) (w := w) (blk := g) n A #[]
    have e0 : sortWorld (Value.int .i64) w g 0 n A #[] = Sort.putRow (Value.int .i64) (Sort.ahead w n) g 0 A := by unfold sortWorld; rw [Sort.grow_empty]
    rw [e0] at h1 h2
    rw [hA]
    have h3 := owns_cut h1 hrl
    rw [show (A.toList.map (Value.int .i64)).take ((Cf.rise l).length * 1) = natVals (Cf.rise l) by rw [← hA, Nat.mul_one, ← Cf.casts_vals]; simp [Cf.casts_len]] at h3
    exact ⟨_, rfl, h3, h2.mono (fun i _ e => by rw [e]; rfl), rfl⟩
theorem RowPost.trans {base : Nat} {v : Value} {l r : List Nat} {a b c : World} (h : RowPost base v l a b) (k : RowPost base v r b c) : RowPost base v r a c := ⟨k.1, h.2.trans k.2 (fun _ e => .inl e)⟩
theorem rising_any {w : World} {base : Nat} {v : Value} {l : List Nat} (h : w.ownsRow base 3 1 v l.length (natVals l)) (hl : l.length ≤ 4294967296) :
    Calls Try.prog 37 #[v] w fun e w' => ∃ v', e = .returned v' ∧ w'.ownsRow base 3 1 v' (Cf.rise l).length (natVals (Cf.rise l)) ∧ Chg (fun i => v.ownBlock = some i) w w' ∧ v'.ownBlock = v.ownBlock := by
  have HS := hid (sort_any h hl)
  have HC := hid (fun W (hW : RowPost base v (Cf.srt l) w W) => compact_any hW.1 (by rw [Cf.srt_len]; exact hl) (Cf.srt_le l))
  have er : Cf.rise (Cf.srt l) = Cf.rise l := Cf.rise_same (fun x => Cf.mem_srt)
  rw [er] at HC
  clear h er
  go_enter Try.func37, Try.ntmps37
  go_wp2_with (first | (go_at_call 32; refine HS.out.mono ?_; rintro e w1 ⟨rfl, h1⟩; have H1 := hid h1; clear h1) | (go_at_call 33; refine (HC.out _ H1.out).mono ?_; rintro e w2 ⟨v2, rfl, h2, h3, h4⟩))
  go_ret
  exact ⟨_, rfl, h2, H1.out.2.trans h3 (fun _ e => .inl e), h4⟩
end Go.Proofs.Ytdodobpbdnpjiaa
