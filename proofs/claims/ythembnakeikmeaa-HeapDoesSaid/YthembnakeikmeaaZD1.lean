/- Own texts for the claim, part 1. -/
import Derived.WalkKit
import Derived.Maps.AppendAt
import Derived.Deep.RegionLaw
import Derived.RegionDies
import Derived.BigCall
import Derived.Deep.QuietTactic
import Derived.Test.YthembnakeikmeaaChecked
import Derived.BigQuiet
import Derived.Lib.AppendZerosOnto
import Derived.Laws.CopyRow
import Derived.BigGuardPart
namespace Go.Proofs.Ythembnakeikmeaa.Kit
open Go Go.RowKit

/-- A slice value of n elements, 'size' cells each, that reads as these cells. -/
def IsS (size : Nat) (w : World) (v : Value) (n : Nat) (xs : List Value) : Prop :=
  xs.length = n * size ∧ n ≤ 140737488355328 ∧ ((n = 0 ∧ ∃ a cap, v = .slice a 0 cap) ∨ (∃ b o cap, v = .slice (some ⟨b, o, none⟩) n cap ∧ n ≤ cap ∧ b < w.heap.size ∧ ∀ i u, xs[i]? = some u → w.cell? ⟨b, o + i, none⟩ = some u))
theorem IsS.below {size : Nat} {w w' : World} {v : Value} {n : Nat} {xs : List Value} (h : IsS size w v n xs) {B : Nat} (hb : Below B w w') (hB : w.heap.size ≤ B) : IsS size w' v n xs := by
  refine ⟨h.1, h.2.1, ?_⟩
  rcases h.2.2 with h | ⟨b, o, cap, hv, hl, hlt, hc⟩
  · exact .inl h
  · exact .inr ⟨b, o, cap, hv, hl, Nat.lt_of_lt_of_le hlt hb.size, fun i u hi => (hb.cell (p := ⟨b, o + i, none⟩) (by simp; omega)).trans (hc i u hi)⟩
theorem IsS.len {size : Nat} {w : World} {v : Value} {n : Nat} {xs : List Value} (h : IsS size w v n xs) : ∃ a cap, v = .slice a n cap := by
  rcases h.2.2 with ⟨rfl, a, cap, rfl⟩ | ⟨b, o, cap, rfl, -⟩
  · exact ⟨a, cap, rfl⟩
  · exact ⟨_, cap, rfl⟩
/-- What a slice with an element is. -/
theorem IsS.some {size : Nat} {w : World} {v : Value} {n : Nat} {xs : List Value} (h : IsS size w v n xs) (hn : 0 < n) :
    ∃ b o cap, v = .slice (Option.some ⟨b, o, none⟩) n cap ∧ n ≤ cap ∧ b < w.heap.size ∧ ∀ i u, xs[i]? = Option.some u → w.cell? ⟨b, o + i, none⟩ = Option.some u := by
  rcases h.2.2 with ⟨rfl, _⟩ | h
  · omega
  · exact h
/-- Out of a row of the call's own. -/
theorem isS_of_owns {w : World} {base : Nat} {e : TypeId} {size : Nat} {v : Value} {n : Nat} {xs : List Value} (h : w.ownsRow base e size v n xs) (hn : n ≤ 140737488355328) : IsS size w v n xs := by
  obtain ⟨hl, h⟩ := h
  refine ⟨hl, hn, ?_⟩
  rcases h with ⟨rfl, rfl⟩ | ⟨g, cap, cur, rfl, hg, hh, hc1, hc2, hc3, ht⟩
  · exact .inl ⟨rfl, none, 0, rfl⟩
  · refine .inr ⟨g, 0, cap, rfl, hc1, ?_, fun i u hi => ?_⟩
    · rw [Array.getElem?_eq_some_iff] at hh; exact hh.1
    · have hlt : i < xs.length := by rw [List.getElem?_eq_some_iff] at hi; exact hi.1
      have : cur[i]? = Option.some u := by
        rw [← ht, List.getElem?_take_of_lt (by omega)] at hi
        simpa using hi
      simp [World.cell?, hh, this]
theorem below_grown {B : Nat} {a w w' : World} {v : Value} (h : Below B a w) (hg : w.grownBy w' v.ownBlock) (hB : B ≤ w.heap.size) (hr : ∀ k, v.ownBlock = some k → B ≤ k) : Below B a w' := h.grown hg hB hr
theorem own_base {w : World} {base : Nat} {e : TypeId} {size : Nat} {v : Value} {n : Nat} {xs : List Value} (h : w.ownsRow base e size v n xs) : ∀ k, v.ownBlock = some k → base ≤ k := by
  intro k hk
  rcases h.2 with ⟨rfl, -⟩ | ⟨g, cap, cur, rfl, hg, -⟩
  · simp [Value.ownBlock] at hk
  · simp [Value.ownBlock] at hk; omega
/-- An owned row in a world in which its block has not turned. -/
theorem owns_below {w w' : World} {base B : Nat} {e : TypeId} {size : Nat} {v : Value} {n : Nat} {xs : List Value} (h : w.ownsRow base e size v n xs) (hb : Below B w w') (hB : w.heap.size ≤ B) : w'.ownsRow base e size v n xs := by
  obtain ⟨h1, h2⟩ := h
  refine ⟨h1, ?_⟩
  rcases h2 with h2 | ⟨g, cap, cur, hv, hg, hh, r⟩
  · exact .inl h2
  · refine .inr ⟨g, cap, cur, hv, hg, ?_, r⟩
    rw [hb.block g (by rw [Array.getElem?_eq_some_iff] at hh; have := hh.1; omega)]
    exact hh
/-- A place in a list laid flat. -/
theorem flat_at {α : Type} {f : α → List Value} {s : Nat} (hf : ∀ x, (f x).length = s) : ∀ {l : List α} {k : Nat} {x : α}, l[k]? = some x → ∀ j, j < s → (l.flatMap f)[k * s + j]? = (f x)[j]?
  | [], _, _, h, _, _ => by simp at h
  | a :: l, 0, x, h, j, hj => by
    simp only [List.getElem?_cons_zero, Option.some.injEq] at h
    subst h
    rw [List.flatMap_cons, List.getElem?_append_left (by rw [hf]; omega)]
    simp
  | a :: l, k + 1, x, h, j, hj => by
    rw [List.flatMap_cons, List.getElem?_append_right (by rw [hf, Nat.add_mul]; omega), hf]
    rw [show (k + 1) * s + j - s = k * s + j by rw [Nat.add_mul]; omega]
    exact flat_at hf (by simpa using h) j hj
theorem flat_len {α : Type} {f : α → List Value} {s : Nat} (hf : ∀ x, (f x).length = s) : ∀ l : List α, (l.flatMap f).length = l.length * s
  | [] => by simp
  | a :: l => by rw [List.flatMap_cons, List.length_append, hf, flat_len hf l, List.length_cons, Nat.add_mul]; omega
/-- One new cell, as an append's source. -/
theorem news_one (w : World) (x : Value) (t : TypeId) : ∀ j u, [x][j]? = some u → (w.alloc (.cells #[x] t)).cell? ((⟨w.heap.size, 0, none⟩ : Addr).add j) = some u := by
  intro j u h
  match j, h with
  | 0, h =>
    simp only [List.getElem?_cons_zero, Option.some.injEq] at h
    subst h
    show (w.alloc (.cells #[x] t)).cell? ⟨w.heap.size, 0, none⟩ = some x
    rw [World.cell?_alloc_new]; rfl
  | j + 1, h => simp at h
theorem ones_one {x : Value} (h : x.oneCell' = true) : ∀ u ∈ [x], u.oneCell' = true := by
  intro u hu
  simp only [List.mem_singleton] at hu
  subst hu; exact h
/-- Numbers as cells. -/
def natVals (ns : List Nat) : List Value := ns.map fun n : Nat => .int .i64 (n : Int)
theorem natVals_snoc (ns : List Nat) (n : Nat) : natVals (ns ++ [n]) = natVals ns ++ [.int .i64 (n : Int)] := by unfold natVals; simp
theorem natVals_at {ns : List Nat} {k n : Nat} (h : ns[k]? = some n) : (natVals ns)[k]? = some (.int .i64 (n : Int)) := by unfold natVals; simp [h]
end Go.Proofs.Ythembnakeikmeaa.Kit
namespace Go.Proofs.Ythembnakeikmeaa.Kit
open Go Go.RowKit

theorem own_lt {w : World} {base : Nat} {e : TypeId} {size : Nat} {v : Value} {n : Nat} {xs : List Value} (h : w.ownsRow base e size v n xs) : ∀ k, v.ownBlock = some k → k < w.heap.size := by
  intro k hk
  rcases h.2 with ⟨rfl, -⟩ | ⟨g, cap, cur, rfl, hg, hh, -⟩
  · simp [Value.ownBlock] at hk
  · simp only [Value.ownBlock, Option.some.injEq] at hk
    subst hk
    rw [Array.getElem?_eq_some_iff] at hh
    exact hh.1
/-- From w to w' only the row of v may have been written; the new value's row is that one, or a new one. -/
structure Grows (w w' : World) (v v' : Value) : Prop where
  grown : w.grownBy w' v.ownBlock
  blk : v'.ownBlock = v.ownBlock ∨ ∃ k, w.heap.size ≤ k ∧ v'.ownBlock = some k
theorem Grows.refl (w : World) (v : Value) : Grows w w v v := ⟨⟨rfl, rfl, rfl, Nat.le_refl _, fun _ _ _ => rfl⟩, .inl rfl⟩
theorem Grows.trans {a b c : World} {u v x : Value} (h : Grows a b u v) (k : Grows b c v x) : Grows a c u x := by
  refine ⟨⟨k.grown.os.trans h.grown.os, k.grown.tape.trans h.grown.tape, k.grown.output.trans h.grown.output, Nat.le_trans h.grown.size k.grown.size, fun i hi hne => ?_⟩, ?_⟩
  · have h2 : some i ≠ v.ownBlock := by
      rcases h.blk with e | ⟨j, hj, e⟩
      · rw [e]; exact hne
      · rw [e]; intro e2; have := Option.some.inj e2; omega
    exact (k.grown.block i (Nat.lt_of_lt_of_le hi h.grown.size) h2).trans (h.grown.block i hi hne)
  · rcases k.blk with e | ⟨j, hj, e⟩
    · rw [e]; exact h.blk
    · exact .inr ⟨j, Nat.le_trans h.grown.size hj, e⟩
theorem Grows.below {a b c : World} {u v : Value} (h : Grows a b u v) (k : Below b.heap.size b c) : Grows a c u v :=
  ⟨⟨k.os.trans h.grown.os, k.tape.trans h.grown.tape, k.output.trans h.grown.output, Nat.le_trans h.grown.size k.size, fun i hi hne => (k.block i (Nat.lt_of_lt_of_le hi h.grown.size)).trans (h.grown.block i hi hne)⟩, h.blk⟩
/-- A cell of a block that is not the row's. -/
theorem Grows.cell {w w' : World} {v v' : Value} (h : Grows w w' v v') {b : Nat} (hb : b < w.heap.size) (hne : ∀ k, v.ownBlock = some k → k ≠ b) (o : Nat) : w'.cell? ⟨b, o, none⟩ = w.cell? ⟨b, o, none⟩ :=
  World.cell?_of_block (h.grown.block b hb (fun e => hne b e.symm rfl))
theorem Grows.frozen {w w' : World} {v v' : Value} (h : Grows w w' v v') {b : Nat} (hb : b < w.heap.size) (hne : ∀ k, v.ownBlock = some k → k ≠ b) (o : Nat) : w'.frozen? ⟨b, o, none⟩ = w.frozen? ⟨b, o, none⟩ :=
  World.frozen?_of_block (h.grown.block b hb (fun e => hne b e.symm rfl))
theorem Grows.to_below {B : Nat} {a w w' : World} {v v' : Value} (h : Grows w w' v v') (hb : Below B a w) (hB : B ≤ w.heap.size) (hv : ∀ k, v.ownBlock = some k → B ≤ k) : Below B a w' := hb.grown h.grown hB hv
theorem Grows.size {w w' : World} {v v' : Value} (h : Grows w w' v v') : w.heap.size ≤ w'.heap.size := h.grown.size
end Go.Proofs.Ythembnakeikmeaa.Kit
namespace Go.Proofs.Ythembnakeikmeaa.Kit
open Go Go.RowKit

theorem step_call1 {P : Program} {ops : Array Oper} {o : Oper} {a : Act} {w : World} {K : Act → World → Prop} {Q : Exit → Act → World → Prop} {E : Prop}
    (hg : o.guard = none) (f : FuncId) (x : Operand) (t : TypeId) (hop : o.op = Op.call { callee := Callee.value (.func f), args := #[x], argTypes := #[t] }) (v : Value) (hx : a.eval x = v) (hcf : (callFunc f #[v]).run P w = .ok (.enter f #[v]) w)
    (R : Ending → World → Prop) (hC : Calls P f #[v] w R) (hR : ∀ e w', R e w' → ∃ u, e = .returned u ∧ K (a.put o.dst u) w') :
    if Region.wanted o (yielded ops a.tmps) = true then Oper.wp P o a w K Q else E := by
  have hw : Region.wanted o (yielded ops a.tmps) = true := by simp [Region.wanted, hg]
  rw [if_pos hw]
  have hrun : (execOp a.eval o).run P w = .ok (.enter f #[v]) w := by
    cases o
    simp only at hop
    subst hop hx
    rw [execOp_call_go]
    simpa using hcf
  unfold Oper.wp
  rw [hrun]
  show Calls P f #[v] w _
  refine hC.mono ?_
  intro e w' h
  obtain ⟨u, rfl, hk⟩ := hR e w' h
  exact hk
theorem step_call2 {P : Program} {ops : Array Oper} {o : Oper} {a : Act} {w : World} {K : Act → World → Prop} {Q : Exit → Act → World → Prop} {E : Prop}
    (hg : o.guard = none) (f : FuncId) (x y : Operand) (t t' : TypeId) (hop : o.op = Op.call { callee := Callee.value (.func f), args := #[x, y], argTypes := #[t, t'] }) (v v' : Value) (hx : a.eval x = v) (hy : a.eval y = v') (hcf : (callFunc f #[v, v']).run P w = .ok (.enter f #[v, v']) w)
    (R : Ending → World → Prop) (hC : Calls P f #[v, v'] w R) (hR : ∀ e w', R e w' → ∃ u, e = .returned u ∧ K (a.put o.dst u) w') :
    if Region.wanted o (yielded ops a.tmps) = true then Oper.wp P o a w K Q else E := by
  have hw : Region.wanted o (yielded ops a.tmps) = true := by simp [Region.wanted, hg]
  rw [if_pos hw]
  have hrun : (execOp a.eval o).run P w = .ok (.enter f #[v, v']) w := by
    cases o
    simp only at hop
    subst hop hx hy
    rw [execOp_call_go]
    simpa using hcf
  unfold Oper.wp
  rw [hrun]
  show Calls P f #[v, v'] w _
  refine hC.mono ?_
  intro e w' h
  obtain ⟨u, rfl, hk⟩ := hR e w' h
  exact hk
theorem step_append_own {P : Program} {ops : Array Oper} {o : Oper} {a : Act} {w : World} {K : Act → World → Prop} {Q : Exit → Act → World → Prop} {E : Prop}
    (hg : o.guard = none) (s x : Operand) (t : TypeId) (hop : o.op = Op.call { callee := Callee.builtin Builtin.append, args := #[s, x], argTypes := #[t, t] })
    (base : Nat) (e : TypeId) (i : TypeInfo) (z : Value) (size bytes : Nat) (ht : P.underlying t = some (.slice e)) (hi : P.info? e = some i) (hz : i.zero = some z)
    (hsize : i.size = size) (hby : i.bytes = bytes) (hzs : z.cells.size = size) (hsz : 0 < size)
    (v : Value) (n : Nat) (xs : List Value) (hs : a.eval s = v) (hown : w.ownsRow base e size v n xs)
    (ad : Addr) (m c : Nat) (news : List Value) (hx : a.eval x = .slice (some ad) m c) (hl : news.length = m * size) (hnews : ∀ j u, news[j]? = some u → w.cell? (ad.add j) = some u) (h1 : ∀ u ∈ news, u.oneCell' = true)
    (h63 : n + m ≤ maxLen) (hbytes : (n + m) * bytes ≤ 140737488355328) (hbase : base ≤ w.heap.size)
    (hK : ∀ v' w', w'.ownsRow base e size v' (n + m) (xs ++ news) → w.grownBy w' v.ownBlock → (v'.ownBlock = v.ownBlock ∨ v'.ownBlock = some w.heap.size) → K (a.put o.dst v') w') :
    if Region.wanted o (yielded ops a.tmps) = true then Oper.wp P o a w K Q else E := by
  have hw : Region.wanted o (yielded ops a.tmps) = true := by simp [Region.wanted, hg]
  rw [if_pos hw]
  obtain ⟨v', w', hr, h2, h3, -, h5⟩ := run_append_own_at (P := P) w base t o.type e i z size bytes ht hi hz hsize hby hzs hsz v n xs hown ad m c news hl hnews h1 h63 hbytes hbase
  unfold Oper.wp execOp
  simp only [hop, resolve, invoke, builtin, Sem.run_bind, Sem.run_pure, Result.andThen_ok, List.map_toArray, List.map_cons, List.map_nil, hs, hx, hr]
  exact hK _ _ h2 h3 h5
end Go.Proofs.Ythembnakeikmeaa.Kit
namespace Go.Proofs.Ythembnakeikmeaa
open Go Go.RowKit

theorem hid {p : Prop} (h : p) : Hid p := h
theorem belows {B : Nat} {a b c : World} (h : Below B a b) (k : Below b.heap.size b c) (hB : B ≤ b.heap.size) : Below B a c := h.trans (k.mono hB)
theorem belows_drewN {B : Nat} {a b : World} (h : Below B a b) (n : Nat) : Below B a (b.drewN n) := ⟨h.os, h.tape, h.output, h.size, h.block⟩
theorem below_drewN (w : World) (n : Nat) : Below w.heap.size w (w.drewN n) := ⟨rfl, rfl, rfl, Nat.le_refl _, fun _ _ => rfl⟩
namespace Hp
structure Ty where
  k : Int
  s : ByteArray
structure Vl where
  k : Int
  n : Int
/-- A heap as it lies: its limit, classes, cells of types and of values, and where their rows end. -/
structure St where
  lim : Nat
  cs : List Int
  tc : List Ty
  te : List Nat
  vc : List Vl
  ve : List Nat
def T0 : Ty := ⟨0, ⟨#[]⟩⟩
def V0 : Vl := ⟨0, 0⟩
end Hp
def tL (t : Hp.Ty) : List Value := [.int .i64 t.k, .string t.s]
def vL (v : Hp.Vl) : List Value := [.int .i64 v.k, .int .i64 v.n]
def tA (t : Hp.Ty) : Value := .agg #[.int .i64 t.k, .string t.s]
def vA (v : Hp.Vl) : Value := .agg #[.int .i64 v.k, .int .i64 v.n]
def iL (l : List Int) : List Value := l.map (Value.int .i64)
theorem tL_len (t : Hp.Ty) : (tL t).length = 2 := rfl
theorem vL_len (v : Hp.Vl) : (vL v).length = 2 := rfl
theorem iL_snoc (l : List Int) (x : Int) : iL (l ++ [x]) = iL l ++ [.int .i64 x] := by simp [iL]
/-- Of the blocks that there were, only those of S may have been written. -/
structure Chg (S : Nat → Prop) (w w' : World) : Prop where
  os : w'.os = w.os
  tape : w'.tape = w.tape
  output : w'.output = w.output
  size : w.heap.size ≤ w'.heap.size
  block : ∀ k, k < w.heap.size → ¬ S k → w'.heap[k]? = w.heap[k]?
section
variable {S T : Nat → Prop} {a b c w w' : World}
theorem Chg.refl (S : Nat → Prop) (w : World) : Chg S w w := ⟨rfl, rfl, rfl, Nat.le_refl _, fun _ _ _ => rfl⟩
theorem Chg.trans (h : Chg S a b) (k : Chg T b c) (hT : ∀ i, T i → S i ∨ a.heap.size ≤ i) : Chg S a c :=
  ⟨k.os.trans h.os, k.tape.trans h.tape, k.output.trans h.output, Nat.le_trans h.size k.size, fun i hi hs =>
    (k.block i (Nat.lt_of_lt_of_le hi h.size) (fun ht => by rcases hT i ht with h1 | h1; exact hs h1; omega)).trans (h.block i hi hs)⟩
theorem Chg.mono (h : Chg S a b) (hs : ∀ i, i < a.heap.size → S i → T i) : Chg T a b := ⟨h.os, h.tape, h.output, h.size, fun i hi ht => h.block i hi (fun e => ht (hs i hi e))⟩
theorem Chg.of_below (h : Below w.heap.size w w') : Chg S w w' := ⟨h.os, h.tape, h.output, h.size, fun k hk _ => h.block k hk⟩
theorem Chg.below (h : Chg S a b) (k : Below b.heap.size b c) : Chg S a c := h.trans (Chg.of_below (S := fun _ => False) k) (fun _ e => e.elim)
theorem Chg.of_grown {row : Option Nat} (h : w.grownBy w' row) (hr : ∀ k, row = some k → S k) : Chg S w w' :=
  ⟨h.os, h.tape, h.output, h.size, fun k hk hs => h.block k hk (fun e => hs (hr k e.symm))⟩
theorem Chg.grown {row : Option Nat} (h : Chg S a b) (k : b.grownBy c row) (hr : ∀ k, row = some k → S k ∨ a.heap.size ≤ k) : Chg S a c :=
  h.trans (Chg.of_grown (S := fun i => row = some i) k (fun _ e => e)) (fun i e => hr i e)
theorem Chg.alloc (h : Chg S a b) (o : Obj) : Chg S a (b.alloc o) := h.below ((Below.refl _ _).alloc (Nat.le_refl _) _)
theorem Chg.drew (h : Chg S a b) : Chg S a b.drew := h.below (Below.drew (Below.refl _ _))
theorem Chg.set (h : Chg S a b) {p : Addr} (hp : S p.block ∨ a.heap.size ≤ p.block) (u : Value) : Chg S a (b.setCell p u) :=
  h.trans (T := fun i => i = p.block) ⟨rfl, rfl, rfl, by simp [World.setCell], fun k _ hk => Below.heap_setCell _ _ _ _ hk⟩ (fun i e => e ▸ hp)
theorem Chg.to_below {B : Nat} (h : Chg S w w') (hS : ∀ k, S k → B ≤ k) (hB : B ≤ w.heap.size) : Below B w w' :=
  ⟨h.os, h.tape, h.output, h.size, fun k hk => h.block k (by omega) (fun e => by have := hS k e; omega)⟩
theorem Chg.cell (h : Chg S w w') {p : Addr} (hp : p.block < w.heap.size) (hs : ¬ S p.block) : w'.cell? p = w.cell? p := World.cell?_of_block (h.block _ hp hs)
theorem owns_chg {base : Nat} {e : TypeId} {size : Nat} {v : Value} {n : Nat} {xs : List Value} (h : w.ownsRow base e size v n xs) (hc : Chg S w w') (hs : ∀ k, v.ownBlock = some k → ¬ S k) : w'.ownsRow base e size v n xs := by
  refine ⟨h.1, ?_⟩
  rcases h.2 with h2 | ⟨g, cap, cur, rfl, hg, hh, k⟩
  · exact .inl h2
  · exact .inr ⟨g, cap, cur, rfl, hg, (hc.block g (Array.getElem?_eq_some_iff.1 hh).1 (hs g rfl)).trans hh, k⟩
end
/-- Rows of unlike element types lie apart. -/
theorem own_unlike {w : World} {b b' : Nat} {e e' : TypeId} {s s' : Nat} {v v' : Value} {n n' : Nat} {xs xs' : List Value} (h : w.ownsRow b e s v n xs) (h' : w.ownsRow b' e' s' v' n' xs') (he : e ≠ e') : ∀ k, v.ownBlock = some k → v'.ownBlock ≠ some k := by
  intro k hk hk'
  rcases h.2 with ⟨rfl, -⟩ | ⟨g, cap, cur, rfl, hg, hh, -⟩
  · simp [Value.ownBlock] at hk
  · rcases h'.2 with ⟨rfl, -⟩ | ⟨g', cap', cur', rfl, hg', hh', -⟩
    · simp [Value.ownBlock] at hk'
    · simp only [Value.ownBlock, Option.some.injEq] at hk hk'
      subst hk
      subst hk'
      rw [hh] at hh'
      simp only [Option.some.injEq, Obj.cells.injEq] at hh'
      exact he hh'.2.1
theorem own_unlike_box {w : World} {b : Nat} {e e' : TypeId} {s : Nat} {v : Value} {n : Nat} {xs : List Value} (h : w.ownsRow b e s v n xs) {k : Nat} {cs : Array Value} {f : Nat × Nat} (h' : w.heap[k]? = some (.cells cs e' f)) (he : e ≠ e') : v.ownBlock ≠ some k := by
  intro hk
  rcases h.2 with ⟨rfl, -⟩ | ⟨g, cap, cur, rfl, hg, hh, -⟩
  · simp [Value.ownBlock] at hk
  · simp only [Value.ownBlock, Option.some.injEq] at hk
    subst hk
    rw [hh] at h'
    simp only [Option.some.injEq, Obj.cells.injEq] at h'
    exact he h'.2.1
/-- The blocks of a heap. -/
structure HV where
  hb : Nat
  ib : Nat
  a : Value
  b : Value
  c : Value
  d : Value
  e : Value
def HV.foot (H : HV) (k : Nat) : Prop := k = H.hb ∨ k = H.ib ∨ H.a.ownBlock = some k ∨ H.b.ownBlock = some k ∨ H.c.ownBlock = some k ∨ H.d.ownBlock = some k ∨ H.e.ownBlock = some k
/-- A heap in memory, in blocks from base on. -/
structure Rep (w : World) (base : Nat) (H : HV) (s : Hp.St) : Prop where
  box : w.heap[H.hb]? = some (.cells #[.pointer (some ⟨H.ib, 0, none⟩)] 59 (0, 0))
  ins : w.heap[H.ib]? = some (.cells #[.int .i64 s.lim, H.a, H.b, H.c, H.d, H.e] 79 (0, 0))
  oa : w.ownsRow base 3 1 H.a s.cs.length (iL s.cs)
  ob : w.ownsRow base 33 2 H.b s.tc.length (s.tc.flatMap tL)
  oc : w.ownsRow base 3 1 H.c s.te.length (Kit.natVals s.te)
  od : w.ownsRow base 35 2 H.d s.vc.length (s.vc.flatMap vL)
  oe : w.ownsRow base 3 1 H.e s.ve.length (Kit.natVals s.ve)
  ac : ∀ k, H.a.ownBlock = some k → H.c.ownBlock ≠ some k
  ae : ∀ k, H.a.ownBlock = some k → H.e.ownBlock ≠ some k
  ce : ∀ k, H.c.ownBlock = some k → H.e.ownBlock ≠ some k
  lh : base ≤ H.hb
  li : base ≤ H.ib
section
variable {w w' : World} {base : Nat} {H : HV} {s : Hp.St}
theorem Rep.hb_lt (h : Rep w base H s) : H.hb < w.heap.size := (Array.getElem?_eq_some_iff.1 h.box).1
theorem Rep.ib_lt (h : Rep w base H s) : H.ib < w.heap.size := (Array.getElem?_eq_some_iff.1 h.ins).1
theorem Rep.base_lt (h : Rep w base H s) : base < w.heap.size := Nat.lt_of_le_of_lt h.lh h.hb_lt
theorem Rep.ne (h : Rep w base H s) : H.hb ≠ H.ib := by
  intro e
  have h1 := h.box
  have h2 := h.ins
  rw [← e, h1] at h2
  simp at h2
theorem Rep.low (h : Rep w base H s) : ∀ k, H.foot k → base ≤ k ∧ k < w.heap.size := by
  rintro k (rfl | rfl | e | e | e | e | e)
  · exact ⟨h.lh, h.hb_lt⟩
  · exact ⟨h.li, h.ib_lt⟩
  · exact ⟨Kit.own_base h.oa k e, Kit.own_lt h.oa k e⟩
  · exact ⟨Kit.own_base h.ob k e, Kit.own_lt h.ob k e⟩
  · exact ⟨Kit.own_base h.oc k e, Kit.own_lt h.oc k e⟩
  · exact ⟨Kit.own_base h.od k e, Kit.own_lt h.od k e⟩
  · exact ⟨Kit.own_base h.oe k e, Kit.own_lt h.oe k e⟩
/-- What writes elsewhere leaves a heap as it is. -/
theorem Rep.chg {S : Nat → Prop} (h : Rep w base H s) (hc : Chg S w w') (hs : ∀ k, H.foot k → ¬ S k) : Rep w' base H s :=
  ⟨(hc.block _ h.hb_lt (hs _ (.inl rfl))).trans h.box, (hc.block _ h.ib_lt (hs _ (.inr (.inl rfl)))).trans h.ins,
   owns_chg h.oa hc (fun k e => hs k (.inr (.inr (.inl e)))), owns_chg h.ob hc (fun k e => hs k (.inr (.inr (.inr (.inl e))))),
   owns_chg h.oc hc (fun k e => hs k (.inr (.inr (.inr (.inr (.inl e)))))), owns_chg h.od hc (fun k e => hs k (.inr (.inr (.inr (.inr (.inr (.inl e))))))),
   owns_chg h.oe hc (fun k e => hs k (.inr (.inr (.inr (.inr (.inr (.inr e))))))), h.ac, h.ae, h.ce, h.lh, h.li⟩
theorem Rep.below (h : Rep w base H s) (hb : Below w.heap.size w w') : Rep w' base H s := h.chg (S := fun _ => False) (Chg.of_below hb) (fun _ _ e => e)
theorem Rep.alloc (h : Rep w base H s) (o : Obj) : Rep (w.alloc o) base H s := h.below ((Below.refl _ _).alloc (Nat.le_refl _) _)
theorem Rep.drew (h : Rep w base H s) : Rep w.drew base H s := h.below (Below.drew (Below.refl _ _))
/-- What cells of the inner block hold. -/
theorem Rep.cells (h : Rep w base H s) : w.cell? ⟨H.hb, 0, none⟩ = some (.pointer (some ⟨H.ib, 0, none⟩)) ∧ w.cell? ⟨H.ib, 0, none⟩ = some (.int .i64 s.lim) ∧ w.cell? ⟨H.ib, 1, none⟩ = some H.a ∧ w.cell? ⟨H.ib, 2, none⟩ = some H.b ∧ w.cell? ⟨H.ib, 3, none⟩ = some H.c ∧ w.cell? ⟨H.ib, 4, none⟩ = some H.d ∧ w.cell? ⟨H.ib, 5, none⟩ = some H.e := by
  simp [World.cell?, h.box, h.ins]
theorem Rep.frozen (h : Rep w base H s) : ∀ j, w.frozen? ⟨H.ib, j, none⟩ = false := by
  intro j
  simp [World.frozen?, h.ins]
end
/-- Behind a call that goes on with a heap: what it lies in is what it lay in, or new. -/
structure Went (w w' : World) (base : Nat) (H H' : HV) (s' : Hp.St) : Prop where
  rep : Rep w' base H' s'
  chg : Chg H.foot w w'
  hb : H'.hb = H.hb
  ib : H'.ib = H.ib
  foot : ∀ k, H'.foot k → H.foot k ∨ w.heap.size ≤ k
theorem Went.refl {w : World} {base : Nat} {H : HV} {s : Hp.St} (h : Rep w base H s) : Went w w base H H s := ⟨h, Chg.refl _ _, rfl, rfl, fun _ e => .inl e⟩
theorem Went.trans {a b c : World} {base : Nat} {H H' H'' : HV} {s s' : Hp.St} (h : Went a b base H H' s) (k : Went b c base H' H'' s') : Went a c base H H'' s' :=
  ⟨k.rep, h.chg.trans k.chg (fun i e => h.foot i e), k.hb.trans h.hb, k.ib.trans h.ib, fun i e => by
    rcases k.foot i e with h1 | h1
    · exact h.foot i h1
    · exact .inr (Nat.le_trans h.chg.size h1)⟩
theorem Went.below {a b c : World} {base : Nat} {H H' : HV} {s : Hp.St} (h : Went a b base H H' s) (k : Below b.heap.size b c) : Went a c base H H' s := ⟨h.rep.below k, h.chg.below k, h.hb, h.ib, h.foot⟩
theorem Went.start {a b c : World} {base : Nat} {H H' : HV} {s : Hp.St} (h : Below a.heap.size a b) (k : Went b c base H H' s) : Went a c base H H' s :=
  ⟨k.rep, (Chg.of_below h).trans k.chg (fun _ e => .inl e), k.hb, k.ib, fun i e => by
    rcases k.foot i e with h1 | h1
    · exact .inl h1
    · exact .inr (Nat.le_trans h.size h1)⟩
/-- A store of one cell into the inner block. -/
theorem box_set {w : World} {b : Nat} {cs : Array Value} {T : TypeId} (h : w.heap[b]? = some (.cells cs T (0, 0))) (i : Nat) (u : Value) : (w.setCell ⟨b, i, none⟩ u).heap[b]? = some (.cells (cs.setIfInBounds i u) T (0, 0)) := by
  obtain ⟨hlt, hk⟩ := Array.getElem?_eq_some_iff.1 h
  show (w.heap.modify b _)[b]? = _
  rw [Array.getElem?_eq_getElem (by rw [Array.size_modify]; exact hlt), Array.getElem_modify_self, hk]
  rfl
end Go.Proofs.Ythembnakeikmeaa
namespace Go.Proofs.Ythembnakeikmeaa
open Go Go.RowKit

theorem own_form {w : World} {base : Nat} {e : TypeId} {size : Nat} {v : Value} {n : Nat} {xs : List Value} (h : w.ownsRow base e size v n xs) : ∃ a cap, v = .slice a n cap := by
  rcases h.2 with ⟨rfl, rfl⟩ | ⟨g, cap, cur, rfl, -⟩
  · exact ⟨_, _, rfl⟩
  · exact ⟨_, _, rfl⟩
theorem Rep.drewN {w : World} {base : Nat} {H : HV} {s : Hp.St} (h : Rep w base H s) (n : Nat) : Rep (w.drewN n) base H s := h.below (below_drewN w n)
set_option maxRecDepth 100000 in
theorem used_any {w : World} {base : Nat} {H : HV} {s : Hp.St} (h : Rep w base H s) (hn : s.cs.length + s.vc.length ≤ 140737488355328) :
    Calls Try.prog 37 #[.pointer (some ⟨H.ib, 0, none⟩)] w fun e w' => e = .returned (.int .i64 ((s.cs.length : Int) + (s.vc.length : Int))) ∧ ∃ m, w' = w.drewN m := by
  obtain ⟨hb, ib, va, vb, vc, vd, ve⟩ := H; obtain ⟨lim, cs, tc, te, vs, vn⟩ := s; have e1 := own_form h.oa; have e2 := own_form h.ob; have e3 := own_form h.oc; have e4 := own_form h.od; have e5 := own_form h.oe; dsimp only at *; obtain ⟨ua, pa, rfl⟩ := e1; obtain ⟨ub, pb, rfl⟩ := e2; obtain ⟨uc, pc, rfl⟩ := e3; obtain ⟨ud, pd, rfl⟩ := e4; obtain ⟨ue, pe, rfl⟩ := e5; have hcl := h.cells; have hgen := h.hb_lt; have hgen2 := h.ib_lt; have hgen3 := h.li; dsimp only at hcl hgen hgen2 hgen3; obtain ⟨k0, k1, k2, k3, k4, k5, k6⟩ := hcl; have HR := hid h; clear h
  go_enter Try.func37, Try.ntmps37
  go_wp2
  go_quiet (fail)
  go_wp2
  go_ret
  exact ⟨rfl, _, rfl⟩
set_option maxRecDepth 100000 in
theorem many_any {w : World} {base : Nat} {H : HV} {s : Hp.St} (h : Rep w base H s) :
    Calls Try.prog 43 #[.pointer (some ⟨H.ib, 0, none⟩)] w fun e w' => e = .returned (.int .i64 (s.cs.length : Int)) ∧ w = w' := by
  obtain ⟨hb, ib, va, vb, vc, vd, ve⟩ := H; obtain ⟨lim, cs, tc, te, vs, vn⟩ := s; have e1 := own_form h.oa; have e2 := own_form h.ob; have e3 := own_form h.oc; have e4 := own_form h.od; have e5 := own_form h.oe; dsimp only at *; obtain ⟨ua, pa, rfl⟩ := e1; obtain ⟨ub, pb, rfl⟩ := e2; obtain ⟨uc, pc, rfl⟩ := e3; obtain ⟨ud, pd, rfl⟩ := e4; obtain ⟨ue, pe, rfl⟩ := e5; have hcl := h.cells; have hgen := h.hb_lt; have hgen2 := h.ib_lt; have hgen3 := h.li; dsimp only at hcl hgen hgen2 hgen3; obtain ⟨k0, k1, k2, k3, k4, k5, k6⟩ := hcl; have HR := hid h; clear h
  go_enter Try.func43, Try.ntmps43
  go_wp2
  go_ret
  exact ⟨rfl, rfl⟩
set_option maxRecDepth 100000 in
theorem fits_any {w : World} {base : Nat} {H : HV} {s : Hp.St} (h : Rep w base H s) (n : Int) (hn : s.cs.length + s.vc.length ≤ 140737488355328) (hl : s.lim ≤ 140737488355328) :
    Calls Try.prog 39 #[.pointer (some ⟨H.ib, 0, none⟩), .int .i64 n] w fun e w' => e = .returned (.bool (decide (n < (s.lim : Int) - ((s.cs.length : Int) + (s.vc.length : Int))))) ∧ ∃ m, w' = w.drewN m := by
  have HU := hid (fun m => used_any (h.drewN m) hn)
  obtain ⟨hb, ib, va, vb, vc, vd, ve⟩ := H; obtain ⟨lim, cs, tc, te, vs, vn⟩ := s; have e1 := own_form h.oa; have e2 := own_form h.ob; have e3 := own_form h.oc; have e4 := own_form h.od; have e5 := own_form h.oe; dsimp only at *; obtain ⟨ua, pa, rfl⟩ := e1; obtain ⟨ub, pb, rfl⟩ := e2; obtain ⟨uc, pc, rfl⟩ := e3; obtain ⟨ud, pd, rfl⟩ := e4; obtain ⟨ue, pe, rfl⟩ := e5; have hcl := h.cells; have hgen := h.hb_lt; have hgen2 := h.ib_lt; have hgen3 := h.li; dsimp only at hcl hgen hgen2 hgen3; obtain ⟨k0, k1, k2, k3, k4, k5, k6⟩ := hcl; have HR := hid h; clear h
  go_enter Try.func39, Try.ntmps39
  go_wp2
  go_quiet ((go_at_call 37; exact Calls.quiet_of (HU.out _)))
  go_wp2
  go_ret
  exact ⟨rfl, _, rfl⟩
/-- What a reference names: an object's class, -1 of an array. -/
def clsOf (s : Hp.St) (ref : Int) : Option Int := if 1 ≤ ref then s.cs[(ref - 1).toNat]? else none
theorem iL_at {l : List Int} {i : Nat} {x : Int} (h : l[i]? = some x) : (iL l)[i]? = some (.int .i64 x) := by simp [iL, h]
theorem own_cell {w : World} {base : Nat} {e : TypeId} {size : Nat} {v : Value} {n : Nat} {xs : List Value} (h : w.ownsRow base e size v n xs) (hp : 0 < n) :
    ∃ g cap, v = .slice (some ⟨g, 0, none⟩) n cap ∧ n ≤ cap ∧ v.ownBlock = some g ∧ ∀ i u, xs[i]? = some u → w.cell? ⟨g, i, none⟩ = some u := by
  rcases h.2 with ⟨rfl, rfl⟩ | ⟨g, cap, cur, rfl, hg, hh, hc1, hc2, hc3, ht⟩
  · omega
  · refine ⟨g, cap, rfl, hc1, rfl, fun i u hi => ?_⟩
    have hlt : i < xs.length := by rw [List.getElem?_eq_some_iff] at hi; exact hi.1
    have hx := h.1
    have : cur[i]? = some u := by
      rw [← ht, List.getElem?_take_of_lt (by omega)] at hi
      simpa using hi
    simp [World.cell?, hh, this]
set_option maxRecDepth 100000 in
theorem class_any {w : World} {base : Nat} {H : HV} {s : Hp.St} (h : Rep w base H s) (ref : Int) (hr : -9223372036854775808 ≤ ref ∧ ref ≤ 9223372036854775807) (hn : s.cs.length ≤ 140737488355328) :
    Calls Try.prog 49 #[.pointer (some ⟨H.ib, 0, none⟩), .int .i64 ref] w fun e w' => e = .returned (.tuple #[.int .i64 ((clsOf s ref).getD 0), .bool (clsOf s ref).isSome]) ∧ Below w.heap.size w w' := by
  have HM := hid (many_any h)
  by_cases h1 : 1 ≤ ref
  · by_cases h2 : ref ≤ s.cs.length
    · have hlt : (ref - 1).toNat < s.cs.length := by omega
      obtain ⟨x, hx⟩ : ∃ x, s.cs[(ref - 1).toNat]? = some x := ⟨_, List.getElem?_eq_getElem hlt⟩
      have HC : Hid (clsOf s ref = some x) := by
        show clsOf s ref = some x
        unfold clsOf
        rw [if_pos h1, hx]
      obtain ⟨g, cap, hv, hcap, -, hcell⟩ := own_cell h.oa (by omega)
      have hx1 := hcell _ _ (iL_at hx)
      rw [show (ref - 1).toNat = ref.toNat - 1 by omega] at hx1
      have HX := hid hx
      have HV := hid hv
      clear hx hcell hv
      obtain ⟨hb, ib, va, vb, vc, vd, ve⟩ := H; obtain ⟨lim, cs, tc, te, vs, vn⟩ := s; have e1 := own_form h.oa; have e2 := own_form h.ob; have e3 := own_form h.oc; have e4 := own_form h.od; have e5 := own_form h.oe; dsimp only at *; obtain ⟨ua, pa, rfl⟩ := e1; obtain ⟨ub, pb, rfl⟩ := e2; obtain ⟨uc, pc, rfl⟩ := e3; obtain ⟨ud, pd, rfl⟩ := e4; obtain ⟨ue, pe, rfl⟩ := e5; have hcl := h.cells; have hgen := h.hb_lt; have hgen2 := h.ib_lt; have hgen3 := h.li; dsimp only at hcl hgen hgen2 hgen3; obtain ⟨k0, k1, k2, k3, k4, k5, k6⟩ := hcl; have HR := hid h; clear h
      rw [HV.out] at k2
      go_enter Try.func49, Try.ntmps49
      go_wp2_with (go_at_call 43; refine HM.out.mono ?_; rintro e w' ⟨rfl, rfl⟩)
      go_ret2
      exact ⟨by rw [HC.out]; rfl, (by repeat' first | with_reducible exact Below.refl _ _ | with_reducible assumption | with_reducible refine belows_drewN ?_ _ | with_reducible refine Below.drew ?_ | with_reducible refine Below.setCell ?_ ?_ _ | with_reducible refine Below.alloc ?_ ?_ _ | omega | (simp; done) | (simp; omega))⟩
    · have HC : Hid (clsOf s ref = none) := by
        show clsOf s ref = none
        unfold clsOf
        rw [if_pos h1, List.getElem?_eq_none (by omega)]
      go_enter Try.func49, Try.ntmps49
      go_wp2_with (go_at_call 43; refine HM.out.mono ?_; rintro e w' ⟨rfl, rfl⟩)
      go_ret2
      exact ⟨by rw [HC.out]; rfl, (by repeat' first | with_reducible exact Below.refl _ _ | with_reducible assumption | with_reducible refine belows_drewN ?_ _ | with_reducible refine Below.drew ?_ | with_reducible refine Below.setCell ?_ ?_ _ | with_reducible refine Below.alloc ?_ ?_ _ | omega | (simp; done) | (simp; omega))⟩
  · have HC : Hid (clsOf s ref = none) := by
      show clsOf s ref = none
      unfold clsOf
      rw [if_neg h1]
    go_enter Try.func49, Try.ntmps49
    go_wp2_with (go_at_call 43; refine HM.out.mono ?_; rintro e w' ⟨rfl, rfl⟩)
    go_ret2
    exact ⟨by rw [HC.out]; rfl, (by repeat' first | with_reducible exact Below.refl _ _ | with_reducible assumption | with_reducible refine belows_drewN ?_ _ | with_reducible refine Below.drew ?_ | with_reducible refine Below.setCell ?_ ?_ _ | with_reducible refine Below.alloc ?_ ?_ _ | omega | (simp; done) | (simp; omega))⟩
def isObjO : Option Int → Bool | some c => decide (c ≠ -1) | none => false
def isArrO : Option Int → Bool | some c => decide (c = -1) | none => false
def isObj (s : Hp.St) (ref : Int) : Bool := isObjO (clsOf s ref)
def isArr (s : Hp.St) (ref : Int) : Bool := isArrO (clsOf s ref)
set_option maxRecDepth 100000 in
theorem isObject_any {w : World} {base : Nat} {H : HV} {s : Hp.St} (h : Rep w base H s) (ref : Int) (hr : -9223372036854775808 ≤ ref ∧ ref ≤ 9223372036854775807) (hn : s.cs.length ≤ 140737488355328) :
    Calls Try.prog 48 #[.pointer (some ⟨H.ib, 0, none⟩), .int .i64 ref] w fun e w' => e = .returned (.bool (isObj s ref)) ∧ Below w.heap.size w w' := by
  have HC := hid (class_any h ref hr hn)
  obtain ⟨o, ho⟩ : ∃ o, o = clsOf s ref := ⟨_, rfl⟩
  obtain ⟨r, hrr⟩ : ∃ r, r = isObj s ref := ⟨_, rfl⟩
  have HO : Hid (isObjO o = r) := (by rw [ho, hrr]; rfl)
  rw [← ho] at HC
  rw [← hrr]
  clear ho hrr h hn
  cases o with
  | none =>
    go_enter Try.func48, Try.ntmps48
    go_wp2_with (go_at_call 49; refine HC.out.mono ?_; rintro e w1 ⟨rfl, hb⟩)
    go_ret
    exact ⟨by rw [← HO.out]; rfl, hb⟩
  | some c =>
    by_cases hc : c = -1
    · subst hc
      go_enter Try.func48, Try.ntmps48
      go_wp2_with (go_at_call 49; refine HC.out.mono ?_; rintro e w1 ⟨rfl, hb⟩)
      go_ret
      exact ⟨by rw [← HO.out]; rfl, hb⟩
    · have hd : (c != -1) = true := by simpa using hc
      have HD := hid hc
      clear hc
      go_enter Try.func48, Try.ntmps48
      go_wp2_with (go_at_call 49; refine HC.out.mono ?_; rintro e w1 ⟨rfl, hb⟩)
      go_ret
      exact ⟨by rw [← HO.out]; simp [isObjO, isArrO, HD.out], hb⟩
set_option maxRecDepth 100000 in
theorem isArray_any {w : World} {base : Nat} {H : HV} {s : Hp.St} (h : Rep w base H s) (ref : Int) (hr : -9223372036854775808 ≤ ref ∧ ref ≤ 9223372036854775807) (hn : s.cs.length ≤ 140737488355328) :
    Calls Try.prog 46 #[.pointer (some ⟨H.ib, 0, none⟩), .int .i64 ref] w fun e w' => e = .returned (.bool (isArr s ref)) ∧ Below w.heap.size w w' := by
  have HC := hid (class_any h ref hr hn)
  obtain ⟨o, ho⟩ : ∃ o, o = clsOf s ref := ⟨_, rfl⟩
  obtain ⟨r, hrr⟩ : ∃ r, r = isArr s ref := ⟨_, rfl⟩
  have HO : Hid (isArrO o = r) := (by rw [ho, hrr]; rfl)
  rw [← ho] at HC
  rw [← hrr]
  clear ho hrr h hn
  cases o with
  | none =>
    go_enter Try.func46, Try.ntmps46
    go_wp2_with (go_at_call 49; refine HC.out.mono ?_; rintro e w1 ⟨rfl, hb⟩)
    go_ret
    exact ⟨by rw [← HO.out]; rfl, hb⟩
  | some c =>
    by_cases hc : c = -1
    · subst hc
      go_enter Try.func46, Try.ntmps46
      go_wp2_with (go_at_call 49; refine HC.out.mono ?_; rintro e w1 ⟨rfl, hb⟩)
      go_ret
      exact ⟨by rw [← HO.out]; rfl, hb⟩
    · have hd : (c == -1) = false := by simpa using hc
      have HD := hid hc
      clear hc
      go_enter Try.func46, Try.ntmps46
      go_wp2_with (go_at_call 49; refine HC.out.mono ?_; rintro e w1 ⟨rfl, hb⟩)
      go_ret
      exact ⟨by rw [← HO.out]; simp [isObjO, isArrO, HD.out], hb⟩
end Go.Proofs.Ythembnakeikmeaa
namespace Go.Proofs.Ythembnakeikmeaa
open Go Go.RowKit

theorem Rep.setA {w w1 : World} {base : Nat} {H : HV} {s : Hp.St} (h : Rep w base H s) (hc : Chg (fun k => H.a.ownBlock = some k) w w1) {u : Value} {l : List Int} (ho : w1.ownsRow base 3 1 u l.length (iL l)) (hk : u.ownBlock = H.a.ownBlock ∨ ∃ k, w.heap.size ≤ k ∧ u.ownBlock = some k) :
    Went w (w1.setCell ⟨H.ib, 1, none⟩ u) base H { H with a := u } { s with cs := l } := by
  have hbx : w1.heap[H.hb]? = _ := (hc.block _ h.hb_lt (own_unlike_box h.oa h.box (by decide))).trans h.box
  have hix : w1.heap[H.ib]? = _ := (hc.block _ h.ib_lt (own_unlike_box h.oa h.ins (by decide))).trans h.ins
  have hn := h.ne
  have hS : Chg (fun k => k = H.ib) w1 (w1.setCell ⟨H.ib, 1, none⟩ u) := (Chg.refl (fun k => k = H.ib) w1).set (p := ⟨H.ib, 1, none⟩) (.inl rfl) u
  refine ⟨⟨(hS.block _ (Nat.lt_of_lt_of_le h.hb_lt hc.size) (by simpa using hn)).trans hbx, box_set hix _ _, owns_chg ho hS (fun k e e2 => own_unlike_box ho hix (by decide) (e2 ▸ e)), owns_chg (owns_chg h.ob hc (own_unlike h.ob h.oa (by decide))) hS (fun k e e2 => own_unlike_box h.ob h.ins (by decide) (e2 ▸ e)), owns_chg (owns_chg h.oc hc (fun k e e2 => h.ac k e2 e)) hS (fun k e e2 => own_unlike_box h.oc h.ins (by decide) (e2 ▸ e)), owns_chg (owns_chg h.od hc (own_unlike h.od h.oa (by decide))) hS (fun k e e2 => own_unlike_box h.od h.ins (by decide) (e2 ▸ e)), owns_chg (owns_chg h.oe hc (fun k e e2 => h.ae k e2 e)) hS (fun k e e2 => own_unlike_box h.oe h.ins (by decide) (e2 ▸ e)), ?_, ?_, ?_, h.lh, h.li⟩, ?_, rfl, rfl, ?_⟩
  · intro k e
    rcases hk with h1 | ⟨j, h1, h2⟩
    · exact h.ac k (h1.symm.trans e)
    · intro e2
      have := Kit.own_lt h.oc k e2
      rw [show u.ownBlock = some k from e] at h2
      have := Option.some.inj h2
      omega
  · intro k e
    rcases hk with h1 | ⟨j, h1, h2⟩
    · exact h.ae k (h1.symm.trans e)
    · intro e2
      have := Kit.own_lt h.oe k e2
      rw [show u.ownBlock = some k from e] at h2
      have := Option.some.inj h2
      omega
  · exact h.ce
  · exact (hc.mono (T := H.foot) (fun i _ e => .inr (.inr (.inl e)))).set (.inl (.inr (.inl rfl))) _
  · rintro k (rfl | rfl | e | e | e | e | e)
    · exact .inl (.inl rfl)
    · exact .inl (.inr (.inl rfl))
    · rcases hk with h1 | ⟨j, h1, h2⟩
      · exact .inl (.inr (.inr (.inl (h1.symm.trans e))))
      · right
        rw [show u.ownBlock = some k from e] at h2
        have := Option.some.inj h2
        omega
    · exact .inl (.inr (.inr (.inr (.inl e))))
    · exact .inl (.inr (.inr (.inr (.inr (.inl e)))))
    · exact .inl (.inr (.inr (.inr (.inr (.inr (.inl e))))))
    · exact .inl (.inr (.inr (.inr (.inr (.inr (.inr e))))))
theorem Rep.setB {w w1 : World} {base : Nat} {H : HV} {s : Hp.St} (h : Rep w base H s) (hc : Chg (fun k => H.b.ownBlock = some k) w w1) {u : Value} {l : List Hp.Ty} (ho : w1.ownsRow base 33 2 u l.length (l.flatMap tL)) (hk : u.ownBlock = H.b.ownBlock ∨ ∃ k, w.heap.size ≤ k ∧ u.ownBlock = some k) :
    Went w (w1.setCell ⟨H.ib, 2, none⟩ u) base H { H with b := u } { s with tc := l } := by
  have hbx : w1.heap[H.hb]? = _ := (hc.block _ h.hb_lt (own_unlike_box h.ob h.box (by decide))).trans h.box
  have hix : w1.heap[H.ib]? = _ := (hc.block _ h.ib_lt (own_unlike_box h.ob h.ins (by decide))).trans h.ins
  have hn := h.ne
  have hS : Chg (fun k => k = H.ib) w1 (w1.setCell ⟨H.ib, 2, none⟩ u) := (Chg.refl (fun k => k = H.ib) w1).set (p := ⟨H.ib, 2, none⟩) (.inl rfl) u
  refine ⟨⟨(hS.block _ (Nat.lt_of_lt_of_le h.hb_lt hc.size) (by simpa using hn)).trans hbx, box_set hix _ _, owns_chg (owns_chg h.oa hc (own_unlike h.oa h.ob (by decide))) hS (fun k e e2 => own_unlike_box h.oa h.ins (by decide) (e2 ▸ e)), owns_chg ho hS (fun k e e2 => own_unlike_box ho hix (by decide) (e2 ▸ e)), owns_chg (owns_chg h.oc hc (own_unlike h.oc h.ob (by decide))) hS (fun k e e2 => own_unlike_box h.oc h.ins (by decide) (e2 ▸ e)), owns_chg (owns_chg h.od hc (own_unlike h.od h.ob (by decide))) hS (fun k e e2 => own_unlike_box h.od h.ins (by decide) (e2 ▸ e)), owns_chg (owns_chg h.oe hc (own_unlike h.oe h.ob (by decide))) hS (fun k e e2 => own_unlike_box h.oe h.ins (by decide) (e2 ▸ e)), ?_, ?_, ?_, h.lh, h.li⟩, ?_, rfl, rfl, ?_⟩
  · exact h.ac
  · exact h.ae
  · exact h.ce
  · exact (hc.mono (T := H.foot) (fun i _ e => .inr (.inr (.inr (.inl e))))).set (.inl (.inr (.inl rfl))) _
  · rintro k (rfl | rfl | e | e | e | e | e)
    · exact .inl (.inl rfl)
    · exact .inl (.inr (.inl rfl))
    · exact .inl (.inr (.inr (.inl e)))
    · rcases hk with h1 | ⟨j, h1, h2⟩
      · exact .inl (.inr (.inr (.inr (.inl (h1.symm.trans e)))))
      · right
        rw [show u.ownBlock = some k from e] at h2
        have := Option.some.inj h2
        omega
    · exact .inl (.inr (.inr (.inr (.inr (.inl e)))))
    · exact .inl (.inr (.inr (.inr (.inr (.inr (.inl e))))))
    · exact .inl (.inr (.inr (.inr (.inr (.inr (.inr e))))))
theorem Rep.setC {w w1 : World} {base : Nat} {H : HV} {s : Hp.St} (h : Rep w base H s) (hc : Chg (fun k => H.c.ownBlock = some k) w w1) {u : Value} {l : List Nat} (ho : w1.ownsRow base 3 1 u l.length (Kit.natVals l)) (hk : u.ownBlock = H.c.ownBlock ∨ ∃ k, w.heap.size ≤ k ∧ u.ownBlock = some k) :
    Went w (w1.setCell ⟨H.ib, 3, none⟩ u) base H { H with c := u } { s with te := l } := by
  have hbx : w1.heap[H.hb]? = _ := (hc.block _ h.hb_lt (own_unlike_box h.oc h.box (by decide))).trans h.box
  have hix : w1.heap[H.ib]? = _ := (hc.block _ h.ib_lt (own_unlike_box h.oc h.ins (by decide))).trans h.ins
  have hn := h.ne
  have hS : Chg (fun k => k = H.ib) w1 (w1.setCell ⟨H.ib, 3, none⟩ u) := (Chg.refl (fun k => k = H.ib) w1).set (p := ⟨H.ib, 3, none⟩) (.inl rfl) u
  refine ⟨⟨(hS.block _ (Nat.lt_of_lt_of_le h.hb_lt hc.size) (by simpa using hn)).trans hbx, box_set hix _ _, owns_chg (owns_chg h.oa hc (fun k e => h.ac k e)) hS (fun k e e2 => own_unlike_box h.oa h.ins (by decide) (e2 ▸ e)), owns_chg (owns_chg h.ob hc (own_unlike h.ob h.oc (by decide))) hS (fun k e e2 => own_unlike_box h.ob h.ins (by decide) (e2 ▸ e)), owns_chg ho hS (fun k e e2 => own_unlike_box ho hix (by decide) (e2 ▸ e)), owns_chg (owns_chg h.od hc (own_unlike h.od h.oc (by decide))) hS (fun k e e2 => own_unlike_box h.od h.ins (by decide) (e2 ▸ e)), owns_chg (owns_chg h.oe hc (fun k e e2 => h.ce k e2 e)) hS (fun k e e2 => own_unlike_box h.oe h.ins (by decide) (e2 ▸ e)), ?_, ?_, ?_, h.lh, h.li⟩, ?_, rfl, rfl, ?_⟩
  · intro k e e2
    rcases hk with h1 | ⟨j, h1, h2⟩
    · exact h.ac k e (h1.symm.trans e2)
    · have := Kit.own_lt h.oa k e
      rw [show u.ownBlock = some k from e2] at h2
      have := Option.some.inj h2
      omega
  · exact h.ae
  · intro k e
    rcases hk with h1 | ⟨j, h1, h2⟩
    · exact h.ce k (h1.symm.trans e)
    · intro e2
      have := Kit.own_lt h.oe k e2
      rw [show u.ownBlock = some k from e] at h2
      have := Option.some.inj h2
      omega
  · exact (hc.mono (T := H.foot) (fun i _ e => .inr (.inr (.inr (.inr (.inl e)))))).set (.inl (.inr (.inl rfl))) _
  · rintro k (rfl | rfl | e | e | e | e | e)
    · exact .inl (.inl rfl)
    · exact .inl (.inr (.inl rfl))
    · exact .inl (.inr (.inr (.inl e)))
    · exact .inl (.inr (.inr (.inr (.inl e))))
    · rcases hk with h1 | ⟨j, h1, h2⟩
      · exact .inl (.inr (.inr (.inr (.inr (.inl (h1.symm.trans e))))))
      · right
        rw [show u.ownBlock = some k from e] at h2
        have := Option.some.inj h2
        omega
    · exact .inl (.inr (.inr (.inr (.inr (.inr (.inl e))))))
    · exact .inl (.inr (.inr (.inr (.inr (.inr (.inr e))))))
theorem Rep.setD {w w1 : World} {base : Nat} {H : HV} {s : Hp.St} (h : Rep w base H s) (hc : Chg (fun k => H.d.ownBlock = some k) w w1) {u : Value} {l : List Hp.Vl} (ho : w1.ownsRow base 35 2 u l.length (l.flatMap vL)) (hk : u.ownBlock = H.d.ownBlock ∨ ∃ k, w.heap.size ≤ k ∧ u.ownBlock = some k) :
    Went w (w1.setCell ⟨H.ib, 4, none⟩ u) base H { H with d := u } { s with vc := l } := by
  have hbx : w1.heap[H.hb]? = _ := (hc.block _ h.hb_lt (own_unlike_box h.od h.box (by decide))).trans h.box
  have hix : w1.heap[H.ib]? = _ := (hc.block _ h.ib_lt (own_unlike_box h.od h.ins (by decide))).trans h.ins
  have hn := h.ne
  have hS : Chg (fun k => k = H.ib) w1 (w1.setCell ⟨H.ib, 4, none⟩ u) := (Chg.refl (fun k => k = H.ib) w1).set (p := ⟨H.ib, 4, none⟩) (.inl rfl) u
  refine ⟨⟨(hS.block _ (Nat.lt_of_lt_of_le h.hb_lt hc.size) (by simpa using hn)).trans hbx, box_set hix _ _, owns_chg (owns_chg h.oa hc (own_unlike h.oa h.od (by decide))) hS (fun k e e2 => own_unlike_box h.oa h.ins (by decide) (e2 ▸ e)), owns_chg (owns_chg h.ob hc (own_unlike h.ob h.od (by decide))) hS (fun k e e2 => own_unlike_box h.ob h.ins (by decide) (e2 ▸ e)), owns_chg (owns_chg h.oc hc (own_unlike h.oc h.od (by decide))) hS (fun k e e2 => own_unlike_box h.oc h.ins (by decide) (e2 ▸ e)), owns_chg ho hS (fun k e e2 => own_unlike_box ho hix (by decide) (e2 ▸ e)), owns_chg (owns_chg h.oe hc (own_unlike h.oe h.od (by decide))) hS (fun k e e2 => own_unlike_box h.oe h.ins (by decide) (e2 ▸ e)), ?_, ?_, ?_, h.lh, h.li⟩, ?_, rfl, rfl, ?_⟩
  · exact h.ac
  · exact h.ae
  · exact h.ce
  · exact (hc.mono (T := H.foot) (fun i _ e => .inr (.inr (.inr (.inr (.inr (.inl e))))))).set (.inl (.inr (.inl rfl))) _
  · rintro k (rfl | rfl | e | e | e | e | e)
    · exact .inl (.inl rfl)
    · exact .inl (.inr (.inl rfl))
    · exact .inl (.inr (.inr (.inl e)))
    · exact .inl (.inr (.inr (.inr (.inl e))))
    · exact .inl (.inr (.inr (.inr (.inr (.inl e)))))
    · rcases hk with h1 | ⟨j, h1, h2⟩
      · exact .inl (.inr (.inr (.inr (.inr (.inr (.inl (h1.symm.trans e)))))))
      · right
        rw [show u.ownBlock = some k from e] at h2
        have := Option.some.inj h2
        omega
    · exact .inl (.inr (.inr (.inr (.inr (.inr (.inr e))))))
theorem Rep.setE {w w1 : World} {base : Nat} {H : HV} {s : Hp.St} (h : Rep w base H s) (hc : Chg (fun k => H.e.ownBlock = some k) w w1) {u : Value} {l : List Nat} (ho : w1.ownsRow base 3 1 u l.length (Kit.natVals l)) (hk : u.ownBlock = H.e.ownBlock ∨ ∃ k, w.heap.size ≤ k ∧ u.ownBlock = some k) :
    Went w (w1.setCell ⟨H.ib, 5, none⟩ u) base H { H with e := u } { s with ve := l } := by
  have hbx : w1.heap[H.hb]? = _ := (hc.block _ h.hb_lt (own_unlike_box h.oe h.box (by decide))).trans h.box
  have hix : w1.heap[H.ib]? = _ := (hc.block _ h.ib_lt (own_unlike_box h.oe h.ins (by decide))).trans h.ins
  have hn := h.ne
  have hS : Chg (fun k => k = H.ib) w1 (w1.setCell ⟨H.ib, 5, none⟩ u) := (Chg.refl (fun k => k = H.ib) w1).set (p := ⟨H.ib, 5, none⟩) (.inl rfl) u
  refine ⟨⟨(hS.block _ (Nat.lt_of_lt_of_le h.hb_lt hc.size) (by simpa using hn)).trans hbx, box_set hix _ _, owns_chg (owns_chg h.oa hc (fun k e => h.ae k e)) hS (fun k e e2 => own_unlike_box h.oa h.ins (by decide) (e2 ▸ e)), owns_chg (owns_chg h.ob hc (own_unlike h.ob h.oe (by decide))) hS (fun k e e2 => own_unlike_box h.ob h.ins (by decide) (e2 ▸ e)), owns_chg (owns_chg h.oc hc (fun k e => h.ce k e)) hS (fun k e e2 => own_unlike_box h.oc h.ins (by decide) (e2 ▸ e)), owns_chg (owns_chg h.od hc (own_unlike h.od h.oe (by decide))) hS (fun k e e2 => own_unlike_box h.od h.ins (by decide) (e2 ▸ e)), owns_chg ho hS (fun k e e2 => own_unlike_box ho hix (by decide) (e2 ▸ e)), ?_, ?_, ?_, h.lh, h.li⟩, ?_, rfl, rfl, ?_⟩
  · exact h.ac
  · intro k e e2
    rcases hk with h1 | ⟨j, h1, h2⟩
    · exact h.ae k e (h1.symm.trans e2)
    · have := Kit.own_lt h.oa k e
      rw [show u.ownBlock = some k from e2] at h2
      have := Option.some.inj h2
      omega
  · intro k e e2
    rcases hk with h1 | ⟨j, h1, h2⟩
    · exact h.ce k e (h1.symm.trans e2)
    · have := Kit.own_lt h.oc k e
      rw [show u.ownBlock = some k from e2] at h2
      have := Option.some.inj h2
      omega
  · exact (hc.mono (T := H.foot) (fun i _ e => .inr (.inr (.inr (.inr (.inr (.inr e))))))).set (.inl (.inr (.inl rfl))) _
  · rintro k (rfl | rfl | e | e | e | e | e)
    · exact .inl (.inl rfl)
    · exact .inl (.inr (.inl rfl))
    · exact .inl (.inr (.inr (.inl e)))
    · exact .inl (.inr (.inr (.inr (.inl e))))
    · exact .inl (.inr (.inr (.inr (.inr (.inl e)))))
    · exact .inl (.inr (.inr (.inr (.inr (.inr (.inl e))))))
    · rcases hk with h1 | ⟨j, h1, h2⟩
      · exact .inl (.inr (.inr (.inr (.inr (.inr (.inr (h1.symm.trans e)))))))
      · right
        rw [show u.ownBlock = some k from e] at h2
        have := Option.some.inj h2
        omega
end Go.Proofs.Ythembnakeikmeaa
namespace Go.Proofs.Ythembnakeikmeaa.Kit
open Go Go.RowKit

theorem firstCells_own {P : Program} {w : World} {g n cap s : Nat} {xs : List Value} (hl : xs.length = n * s) (h : ∀ j u, xs[j]? = some u → w.cell? ((⟨g, 0, none⟩ : Addr).add j) = some u) :
    (Builtin.firstCells s n (.slice (some ⟨g, 0, none⟩) n cap)).run P w = .ok xs.toArray w := run_firstCells_some (P := P) w s n ⟨g, 0, none⟩ n cap xs hl h
theorem run_zeros_own {P : Program} (w : World) (base : Nat) (t tn ty e : TypeId) (i : TypeInfo) (z : Value) (kn : IntKind) (size bytes : Nat) (ht : P.underlying t = some (.slice e)) (htn : P.underlying tn = some (.int kn)) (hi : P.info? e = some i) (hz : i.zero = some z)
    (hsize : i.size = size) (hby : i.bytes = bytes) (hzs : z.cells.size = size) (hz1 : ∀ u ∈ z.cells.toList, u.oneCell' = true) (hsz : 0 < size)
    (v : Value) (n : Nat) (xs : List Value) (hown : w.ownsRow base e size v n xs) (k : Nat) (h63 : n + k ≤ maxLen) (hbytes : (n + k) * bytes ≤ 140737488355328) (hbase : base ≤ w.heap.size) :
    ∃ v' w', (Builtin.append_ #[t, tn] ty #[v, .int .i64 (k : Int)]).run P w = .ok v' w' ∧ w'.ownsRow base e size v' (n + k) (xs ++ (Builtin.zeroCells z.cells k).toList) ∧ w.grownBy w' v.ownBlock ∧ (v'.ownBlock = v.ownBlock ∨ v'.ownBlock = some w.heap.size) := by
  subst hsize
  subst hby
  have hzl : (Builtin.zeroCells z.cells k).toList.length = k * i.size := by rw [Array.length_toList, size_zeroCells, hzs]
  have hlen : (xs ++ (Builtin.zeroCells z.cells k).toList).length = (n + k) * i.size := by rw [List.length_append, hown.1, hzl, Nat.add_mul]
  have hkb : k * i.bytes ≤ 140737488355328 := Nat.le_trans (Nat.mul_le_mul_right _ (Nat.le_add_left k n)) hbytes
  have hm63 : n + k ≤ 9223372036854775807 := by simp only [maxLen] at h63; omega
  have hw : IntKind.i64.wrap (k : Int) = k := by rw [IntKind.wrap_i64]; omega
  have hneg : ¬ ((k : Int) < 0) := by omega
  have h48i : ¬ (281474976710656 < (k : Int) * (i.bytes : Int)) := by rw [← Int.natCast_mul]; omega
  have h1z : ∀ u ∈ (Builtin.zeroCells z.cells k).toList, u.oneCell' = true := by
    intro u hu
    simp only [Builtin.zeroCells, Array.toList_map, List.mem_map, Array.toList_range, List.mem_range] at hu
    obtain ⟨j, hj, rfl⟩ := hu
    have hlt : j % z.cells.size < z.cells.size := Nat.mod_lt _ (by rw [hzs]; exact hsz)
    rw [getElem!_pos z.cells _ hlt]
    exact hz1 _ (by simp)
  have grown : ∀ (olds : List Value) (old : Nat), olds = xs → old < n + k → ∀ (row : Option Nat),
      (w.drew.alloc (.cells (olds.toArray ++ Builtin.zeroCells z.cells k ++ Builtin.zeroCells z.cells (grownCap w (n + k) old e - (n + k))) e)).ownsRow base e i.size
        (.slice (some ⟨w.heap.size, 0, none⟩) (n + k) (grownCap w (n + k) old e)) (n + k) (xs ++ (Builtin.zeroCells z.cells k).toList) ∧
      w.grownBy (w.drew.alloc (.cells (olds.toArray ++ Builtin.zeroCells z.cells k ++ Builtin.zeroCells z.cells (grownCap w (n + k) old e - (n + k))) e)) row := by
    intro olds old ho hlt row
    subst ho
    have hge := grownCap_ge w (n + k) old e
    have hcm : grownCap w (n + k) old e ≤ maxLen := grownCap_le_maxLen w (n + k) old e h63
    refine ⟨⟨hlen, .inr ⟨w.heap.size, _, _, rfl, hbase, heap_alloc_new w.drew _, hge, hcm, ?_, ?_⟩⟩, ⟨rfl, rfl, rfl, by simp, fun k hk _ => Below.heap_alloc w.drew _ k hk⟩⟩
    · simp only [Array.size_append, List.size_toArray, size_zeroCells, hzs, hown.1, ← Nat.add_mul]
      congr 1
      omega
    · simp only [Array.toList_append]
      rw [← hlen]
      exact List.take_left
  by_cases hk : k = 0
  · subst hk
    have hw0 : IntKind.i64.wrap 0 = 0 := by rw [IntKind.wrap_i64]; omega
    have hzn : (Builtin.zeroCells z.cells 0).toList = [] := by simp [Builtin.zeroCells]
    have hzn' : Builtin.zeroCells z.cells 0 = #[] := by simp [Builtin.zeroCells]
    rcases hown.2 with ⟨rfl, rfl⟩ | ⟨g, cap, cur, rfl, hbg, hg, hnc, hcm, hcs, htake⟩
    · refine ⟨.slice none 0 0, w, ?_, by rw [hzn, List.append_nil]; exact hown, ⟨rfl, rfl, rfl, Nat.le_refl _, fun _ _ _ => rfl⟩, .inl rfl⟩
      simp [Builtin.append_, run_underlying ht, run_underlying htn, sizeOf, typeInfo, zeroValue, hi, hz, asInt, asIntOf, hw0]
    · refine ⟨.slice (some ⟨g, 0, none⟩) n cap, w, ?_, by rw [hzn, List.append_nil]; exact hown, ⟨rfl, rfl, rfl, Nat.le_refl _, fun _ _ _ => rfl⟩, .inl rfl⟩
      simp [Builtin.append_, run_underlying ht, run_underlying htn, sizeOf, typeInfo, zeroValue, hi, hz, asInt, asIntOf, hw0, hnc, storeCells]
  · rcases hown.2 with ⟨rfl, rfl⟩ | ⟨g, cap, cur, rfl, hbg, hg, hnc, hcm, hcs, htake⟩
    · have hx : xs = [] := List.eq_nil_of_length_eq_zero (by simpa using hown.1)
      subst hx
      have hr := Lib.run_append_nil_zeros (P := P) w t tn ty e i z .i64 kn ht htn hi hz k (by omega) hsz (by omega) (by omega)
      have hgr := grown [] 0 rfl (by omega) (Value.ownBlock (.slice none 0 0))
      simp only [Nat.zero_add, List.nil_append, Array.empty_append] at hgr ⊢
      exact ⟨_, _, hr, hgr.1, hgr.2, .inr rfl⟩
    · by_cases hroom : n + k ≤ cap
      · have hfit : n * i.size + (Builtin.zeroCells z.cells k).toList.length ≤ cur.size := by rw [hzl, hcs, ← Nat.add_mul]; exact Nat.mul_le_mul_right _ hroom
        have hst := run_storeCells_at P g (n * i.size) e (Builtin.zeroCells z.cells k).toList 0 cur w hg (by simpa using hfit) h1z
        simp only [Nat.add_zero] at hst
        have hns : ¬ (k * i.size = 0) := Nat.mul_ne_zero hk (by omega)
        have hr : (Builtin.append_ #[t, tn] ty #[.slice (some ⟨g, 0, none⟩) n cap, .int .i64 (k : Int)]).run P w =
            .ok (.slice (some ⟨g, 0, none⟩) (n + k) cap) (w.setRow g (cur.toList.take (n * i.size) ++ (Builtin.zeroCells z.cells k).toList ++ cur.toList.drop (n * i.size + (Builtin.zeroCells z.cells k).toList.length)).toArray) := by
          simp [Builtin.append_, run_underlying ht, run_underlying htn, sizeOf, typeInfo, zeroValue, hi, hz, asInt, asIntOf, hw, hneg, h48i, hns, hroom, Addr.add_lit, hst]
        refine ⟨_, _, hr, ⟨hlen, .inr ⟨g, cap, _, rfl, hbg, setRow_heap w g cur _ e _ hg, hroom, hcm, ?_, ?_⟩⟩, ⟨rfl, rfl, rfl, by simp, fun k _ hk => setRow_other w g k _ (fun e => hk (by simp [Value.ownBlock, e]))⟩, .inl rfl⟩
        · simp only [List.size_toArray, List.length_append, List.length_take, List.length_drop, Array.length_toList]
          rw [Array.length_toList] at hfit
          omega
        · rw [htake, ← hlen]
          exact List.take_left
      · have holds : ∀ j u, xs[j]? = some u → w.cell? ((⟨g, 0, none⟩ : Addr).add j) = some u := hown.cells (g := g) rfl
        have hr := Lib.run_append_grow_zeros (P := P) w t tn ty e i z .i64 kn ht htn hi hz (some ⟨g, 0, none⟩) n cap xs (firstCells_own (w := w.drew) hown.1 holds) k (by omega) hsz (by omega) (by omega) (by omega) (growslice_fits (by omega) hbytes)
        have hgr := grown xs cap rfl (by omega) (Value.ownBlock (.slice (some ⟨g, 0, none⟩) n cap))
        exact ⟨_, _, hr, hgr.1, hgr.2, .inr rfl⟩
theorem wpList_zeros_own {P : Program} {w : World} {ops : Array Oper} {rest : List Oper} {o : Oper} {a : Act} {Q : Exit → Act → World → Prop} (hgd : o.guard = none) (s x : Operand) (t tn : TypeId)
    (ho : o.op = .call { callee := .builtin .append, args := #[s, x], argTypes := #[t, tn] })
    (base : Nat) (e : TypeId) (i : TypeInfo) (z : Value) (kn : IntKind) (size bytes : Nat) (ht : P.underlying t = some (.slice e)) (htn : P.underlying tn = some (.int kn)) (hi : P.info? e = some i) (hz : i.zero = some z)
    (hsize : i.size = size) (hby : i.bytes = bytes) (hzs : z.cells.size = size) (hz1 : ∀ u ∈ z.cells.toList, u.oneCell' = true) (hsz : 0 < size)
    (v : Value) (n : Nat) (xs : List Value) (hs : a.eval s = v) (hown : w.ownsRow base e size v n xs) (k : Nat) (hx : a.eval x = .int .i64 (k : Int)) (h63 : n + k ≤ maxLen) (hbytes : (n + k) * bytes ≤ 140737488355328) (hbase : base ≤ w.heap.size)
    (h : ∀ v' w', w'.ownsRow base e size v' (n + k) (xs ++ (Builtin.zeroCells z.cells k).toList) → w.grownBy w' v.ownBlock → (v'.ownBlock = v.ownBlock ∨ v'.ownBlock = some w.heap.size) → wpList P ops Q rest (a.put o.dst v') w') :
    wpList P ops Q (o :: rest) a w := by
  refine wpList_plain hgd fun K hK => ?_
  obtain ⟨v', w', hr, h2, h3, h4⟩ := run_zeros_own (P := P) w base t tn o.type e i z kn size bytes ht htn hi hz hsize hby hzs hz1 hsz v n xs hown k h63 hbytes hbase
  unfold Oper.wp execOp
  simp only [ho, resolve, invoke, builtin, Sem.run_bind, Sem.run_pure, Result.andThen_ok, List.map_toArray, List.map_cons, List.map_nil, hs, hx, hr]
  exact hK _ _ (h v' w' h2 h3 h4)
/-- Zeros of two cells. -/
theorem zeros_two (a b : Value) (k : Nat) : (Builtin.zeroCells #[a, b] k).toList = (List.replicate k [a, b]).flatten := by
  induction k with
  | zero => simp [Builtin.zeroCells]
  | succ k ih =>
    have h : (Builtin.zeroCells #[a, b] (k + 1)).toList = (Builtin.zeroCells #[a, b] k).toList ++ [a, b] := by
      simp only [Builtin.zeroCells, Array.toList_map, Array.toList_range]
      rw [show (k + 1) * (#[a, b] : Array Value).size = k * (#[a, b] : Array Value).size + 1 + 1 by simp; omega, List.range_succ, List.range_succ]
      simp
    rw [h, ih, List.replicate_succ', List.flatten_append]
    simp
end Go.Proofs.Ythembnakeikmeaa.Kit
namespace Go.Proofs.Ythembnakeikmeaa
open Go Go.RowKit Go.Lib

theorem infoI : (Try.prog.info? 3).map (fun i => (i.zero, i.size, i.bytes)) = some (some (.int .i64 0), 1, 8) := by kernel_rfl
/-- A piece of a row. -/
def Sub (r : Value) (size from' k : Nat) (v : Value) : Prop := ∃ a c, v = .slice a k c ∧ k ≤ c ∧ (0 < k → ∃ g, r.ownBlock = some g ∧ a = some ⟨g, from' * size, none⟩)
theorem own_caps {w : World} {base : Nat} {e : TypeId} {size n n' cap : Nat} {a : Option Addr} {xs : List Value} (h : w.ownsRow base e size (.slice a n cap) n' xs) : n = n' ∧ n ≤ cap := by
  rcases h.2 with ⟨h1, rfl⟩ | ⟨g, cap', cur, h1, -, -, h2, -⟩
  · obtain ⟨-, rfl, rfl⟩ := Value.slice.inj h1
    exact ⟨rfl, Nat.le_refl _⟩
  · obtain ⟨-, rfl, rfl⟩ := Value.slice.inj h1
    exact ⟨rfl, h2⟩
theorem endsSnoc {w : World} {base : Nat} {v : Value} {l : List Nat} {a b : Nat} (h : w.ownsRow base 3 1 v (l.length + 1) (Kit.natVals l ++ [.int .i64 ((a : Int) + (b : Int))])) : w.ownsRow base 3 1 v (l ++ [a + b]).length (Kit.natVals (l ++ [a + b])) := by
  rw [Kit.natVals_snoc, List.length_append]
  have e : ((a + b : Nat) : Int) = (a : Int) + (b : Int) := by omega
  rw [e]
  exact h
theorem onesT : ∀ u ∈ (Value.agg #[.int .i64 0, .string ⟨#[]⟩]).cells.toList, u.oneCell' = true := by decide +kernel
theorem onesV : ∀ u ∈ (Value.agg #[.int .i64 0, .int .i64 0]).cells.toList, u.oneCell' = true := by decide +kernel

theorem infoT : (Try.prog.info? 33).map (fun i => (i.zero, i.size, i.bytes)) = some (some (.agg #[.int .i64 0, .string ⟨#[]⟩]), 2, 24) := by kernel_rfl
theorem zerosT {w : World} {base : Nat} {v : Value} {l : List Hp.Ty} {k : Nat} (h : w.ownsRow base 33 2 v (l.length + k) (l.flatMap tL ++ (Builtin.zeroCells (Value.agg #[.int .i64 0, .string ⟨#[]⟩]).cells k).toList)) :
    w.ownsRow base 33 2 v (l ++ List.replicate k Hp.T0).length ((l ++ List.replicate k Hp.T0).flatMap tL) := by
  have e : (List.replicate k Hp.T0).flatMap tL = (Builtin.zeroCells (Value.agg #[.int .i64 0, .string ⟨#[]⟩]).cells k).toList := by
    rw [show (Value.agg #[.int .i64 0, .string ⟨#[]⟩]).cells = #[.int .i64 0, .string ⟨#[]⟩] from rfl, Kit.zeros_two, List.flatMap_def, List.map_replicate]
    rfl
  rw [List.length_append, List.length_replicate, List.flatMap_append, e]
  exact h
def AddT (base : Nat) (H : HV) (s : Hp.St) (k : Nat) (w : World) (e : Ending) (w' : World) : Prop :=
  ∃ H' v, e = .returned v ∧ Went w w' base H H' { s with tc := s.tc ++ List.replicate k Hp.T0, te := s.te ++ [s.tc.length + k] } ∧ Sub H'.b 2 s.tc.length k v
set_option maxRecDepth 100000 in
set_option maxHeartbeats 1000000 in
theorem addT_any {w : World} {base : Nat} {H : HV} {s : Hp.St} (h : Rep w base H s) (k : Nat) (hn : s.tc.length + k ≤ 1073741824) (hm : s.te.length ≤ 1073741824) :
    Calls Try.prog 57 #[.pointer (some ⟨H.ib, 2, none⟩), .int .i64 (k : Int)] w (AddT base H s k w) := by
  obtain ⟨i0, hi, hz0, hz1, hz2⟩ := info_parts infoT
  obtain ⟨i9, hi9, hz09, hz19, hz29⟩ := info_parts infoI
  unfold AddT
  obtain ⟨hb, ib, va, vb, vc, vd, ve⟩ := H; obtain ⟨lim, cs, tc, te, vs, vn⟩ := s; have e1 := own_form h.oa; have e2 := own_form h.ob; have e3 := own_form h.oc; have e4 := own_form h.od; have e5 := own_form h.oe; dsimp only at *; obtain ⟨ua, pa, rfl⟩ := e1; obtain ⟨ub, pb, rfl⟩ := e2; obtain ⟨uc, pc, rfl⟩ := e3; obtain ⟨ud, pd, rfl⟩ := e4; obtain ⟨ue, pe, rfl⟩ := e5; have hcl := h.cells; have hgen := h.hb_lt; have hgen2 := h.ib_lt; have hgen3 := h.li; dsimp only at hcl hgen hgen2 hgen3; obtain ⟨k0, k1, k2, k3, k4, k5, k6⟩ := hcl; have HR := hid h; clear h
  go_enter Try.func57, Try.ntmps57
  go_wp2_with (at_builtin; refine Kit.wpList_zeros_own rfl (.tmp 15) (.tmp 16) 31 3 rfl base 33 i0 _ .i64 2 24 Try.underlying31 Try.underlying3 hi hz0 hz1 hz2 rfl onesT (by decide) _ tc.length (tc.flatMap tL) rfl HR.out.ob k rfl (by unfold maxLen; omega) (by omega) (by omega) ?_; intro v1 w1 ho1 hg1 hk1; have hc1 := Chg.of_grown (S := fun i => (Value.slice ub tc.length pb).ownBlock = some i) hg1 (fun _ e => e); have WT := hid (HR.out.setB hc1 (zerosT ho1) (hk1.imp_right (fun e => ⟨_, Nat.le_refl _, e⟩))); have g1 := (hc1.block _ HR.out.ib_lt (own_unlike_box HR.out.ob HR.out.ins (by decide))).trans HR.out.ins; dsimp only at g1; have c1 : w1.cell? ⟨ib, 2, none⟩ = some (.slice ub tc.length pb) := (by simp [World.cell?, g1]); have y1 : w1.frozen? ⟨ib, 2, none⟩ = false := (by simp [World.frozen?, g1]); obtain ⟨b1, q1, rfl⟩ := own_form ho1; have HC1 := hid hc1.size; clear ho1 hg1 hk1 hc1 g1)
  obtain ⟨W, hW⟩ : ∃ W, W = w1.setCell ⟨ib, 2, none⟩ (.slice b1 (tc.length + k) q1) := ⟨_, rfl⟩
  rw [← hW] at WT ⊢
  have HWs : Hid (w.heap.size ≤ W.heap.size) := (by rw [hW]; show w.heap.size ≤ _; simpa [World.setCell] using HC1.out)
  clear hW c1 y1
  obtain ⟨x0, x1, x2, x3, x4, x5, x6⟩ := WT.out.rep.cells
  have xf3 := WT.out.rep.frozen 3
  dsimp only at x0 x1 x2 x3 x4 x5 x6 xf3
  have hbW := WT.out.rep.base_lt
  have hiW := WT.out.rep.ib_lt
  dsimp only at hiW
  have HOc := hid (fun X (k : Below W.heap.size W X) => Kit.owns_below WT.out.rep.oc k (Nat.le_refl _))
  go_region_law (refine Kit.step_append_own rfl (.tmp 24) (.tmp 30) 72 rfl base 3 i9 _ 1 8 Try.underlying72 hi9 hz09 hz19 hz29 rfl (by decide) _ te.length (Kit.natVals te) rfl (HOc.out _ (by repeat' first | with_reducible exact Below.refl _ _ | with_reducible assumption | with_reducible refine belows_drewN ?_ _ | with_reducible refine Below.drew ?_ | with_reducible refine Below.setCell ?_ ?_ _ | with_reducible refine Below.alloc ?_ ?_ _ | omega | (simp; done) | (simp; omega))) ⟨W.heap.size, 0, none⟩ 1 1 [.int .i64 ((tc.length : Int) + (k : Int))] rfl rfl (by intro j u hj; exact Kit.news_one W _ 3 j u hj) (Kit.ones_one rfl) (by unfold maxLen; omega) (by omega) (by first | omega | (simp; omega)) ?_; intro v2 w2 ho2 hg2 hk2; have hc2 := (Chg.of_below (S := fun i => (Value.slice uc te.length pc).ownBlock = some i) (w := W) (by repeat' first | with_reducible exact Below.refl _ _ | with_reducible assumption | with_reducible refine belows_drewN ?_ _ | with_reducible refine Below.drew ?_ | with_reducible refine Below.setCell ?_ ?_ _ | with_reducible refine Below.alloc ?_ ?_ _ | omega | (simp; done) | (simp; omega))).grown hg2 (fun _ e => .inl e); have WT2 := hid (WT.out.rep.setC hc2 (endsSnoc ho2) (hk2.imp_right (fun e => ⟨_, (by first | omega | (simp; done) | (simp; omega)), e⟩))); have g2 := (hc2.block _ WT.out.rep.ib_lt (own_unlike_box WT.out.rep.oc WT.out.rep.ins (by decide))).trans WT.out.rep.ins; dsimp only at g2; have c2 : w2.cell? ⟨ib, 3, none⟩ = some (.slice uc te.length pc) := (by simp [World.cell?, g2]); have y2 : w2.frozen? ⟨ib, 3, none⟩ = false := (by simp [World.frozen?, g2]); obtain ⟨b2, q2, rfl⟩ := own_form ho2; clear ho2 hg2 hk2 hc2 g2)
  all_goals
    obtain ⟨X, hX⟩ : ∃ X, X = w2.setCell ⟨ib, 3, none⟩ (.slice b2 (te.length + 1) q2) := ⟨_, rfl⟩
    rw [← hX] at WT2 ⊢
    clear hX c2 y2 x0 x1 x2 x3 x4 x5 x6 xf3
    obtain ⟨x0, x1, x2, x3, x4, x5, x6⟩ := WT2.out.rep.cells
    dsimp only at x0 x1 x2 x3 x4 x5 x6
    have cb := (own_caps WT2.out.rep.ob).2
    have HW := hid (WT.out.trans WT2.out)
    by_cases hq : tc.length = q1
    · have hk0 : k ≤ 0 := by omega
      subst hq
      go_wp2
      go_ret
      obtain rfl : k = 0 := by omega
      exact ⟨_, _, rfl, HW.out, _, _, rfl, Nat.zero_le _, fun h => absurd h (by omega)⟩
    · have hq2 : ¬ (q1 - tc.length = 0) := by omega
      clear hq
      have hb1 : 0 < k → ∃ g, b1 = some ⟨g, 0, none⟩ := fun hk => by
        obtain ⟨g, cap, h1, -⟩ := own_cell WT2.out.rep.ob (by rw [List.length_append, List.length_replicate]; omega)
        exact ⟨g, (Value.slice.inj h1).1⟩
      have HB1 := hid hb1
      clear hb1
      go_wp2
      go_ret
      refine ⟨_, _, rfl, HW.out, _, _, rfl, by omega, fun hk => ?_⟩
      obtain ⟨g, rfl⟩ := HB1.out hk
      exact ⟨g, rfl, by simp [Addr.add]; omega⟩
end Go.Proofs.Ythembnakeikmeaa
namespace Go.Proofs.Ythembnakeikmeaa
open Go Go.RowKit

theorem infoV : (Try.prog.info? 35).map (fun i => (i.zero, i.size, i.bytes)) = some (some (.agg #[.int .i64 0, .int .i64 0]), 2, 16) := by kernel_rfl
theorem zerosV {w : World} {base : Nat} {v : Value} {l : List Hp.Vl} {k : Nat} (h : w.ownsRow base 35 2 v (l.length + k) (l.flatMap vL ++ (Builtin.zeroCells (Value.agg #[.int .i64 0, .int .i64 0]).cells k).toList)) :
    w.ownsRow base 35 2 v (l ++ List.replicate k Hp.V0).length ((l ++ List.replicate k Hp.V0).flatMap vL) := by
  have e : (List.replicate k Hp.V0).flatMap vL = (Builtin.zeroCells (Value.agg #[.int .i64 0, .int .i64 0]).cells k).toList := by
    rw [show (Value.agg #[.int .i64 0, .int .i64 0]).cells = #[.int .i64 0, .int .i64 0] from rfl, Kit.zeros_two, List.flatMap_def, List.map_replicate]
    rfl
  rw [List.length_append, List.length_replicate, List.flatMap_append, e]
  exact h
def AddV (base : Nat) (H : HV) (s : Hp.St) (k : Nat) (w : World) (e : Ending) (w' : World) : Prop :=
  ∃ H' v, e = .returned v ∧ Went w w' base H H' { s with vc := s.vc ++ List.replicate k Hp.V0, ve := s.ve ++ [s.vc.length + k] } ∧ Sub H'.d 2 s.vc.length k v
set_option maxRecDepth 100000 in
set_option maxHeartbeats 1000000 in
theorem addV_any {w : World} {base : Nat} {H : HV} {s : Hp.St} (h : Rep w base H s) (k : Nat) (hn : s.vc.length + k ≤ 1073741824) (hm : s.ve.length ≤ 1073741824) :
    Calls Try.prog 58 #[.pointer (some ⟨H.ib, 4, none⟩), .int .i64 (k : Int)] w (AddV base H s k w) := by
  obtain ⟨i0, hi, hz0, hz1, hz2⟩ := info_parts infoV
  obtain ⟨i9, hi9, hz09, hz19, hz29⟩ := info_parts infoI
  unfold AddV
  obtain ⟨hb, ib, va, vb, vc, vd, ve⟩ := H; obtain ⟨lim, cs, tc, te, vs, vn⟩ := s; have e1 := own_form h.oa; have e2 := own_form h.ob; have e3 := own_form h.oc; have e4 := own_form h.od; have e5 := own_form h.oe; dsimp only at *; obtain ⟨ua, pa, rfl⟩ := e1; obtain ⟨ub, pb, rfl⟩ := e2; obtain ⟨uc, pc, rfl⟩ := e3; obtain ⟨ud, pd, rfl⟩ := e4; obtain ⟨ue, pe, rfl⟩ := e5; have hcl := h.cells; have hgen := h.hb_lt; have hgen2 := h.ib_lt; have hgen3 := h.li; dsimp only at hcl hgen hgen2 hgen3; obtain ⟨k0, k1, k2, k3, k4, k5, k6⟩ := hcl; have HR := hid h; clear h
  go_enter Try.func58, Try.ntmps58
  go_wp2_with (at_builtin; refine Kit.wpList_zeros_own rfl (.tmp 15) (.tmp 16) 75 3 rfl base 35 i0 _ .i64 2 16 Try.underlying75 Try.underlying3 hi hz0 hz1 hz2 rfl onesV (by decide) _ vs.length (vs.flatMap vL) rfl HR.out.od k rfl (by unfold maxLen; omega) (by omega) (by omega) ?_; intro v1 w1 ho1 hg1 hk1; have hc1 := Chg.of_grown (S := fun i => (Value.slice ud vs.length pd).ownBlock = some i) hg1 (fun _ e => e); have WT := hid (HR.out.setD hc1 (zerosV ho1) (hk1.imp_right (fun e => ⟨_, Nat.le_refl _, e⟩))); have g1 := (hc1.block _ HR.out.ib_lt (own_unlike_box HR.out.od HR.out.ins (by decide))).trans HR.out.ins; dsimp only at g1; have c1 : w1.cell? ⟨ib, 4, none⟩ = some (.slice ud vs.length pd) := (by simp [World.cell?, g1]); have y1 : w1.frozen? ⟨ib, 4, none⟩ = false := (by simp [World.frozen?, g1]); obtain ⟨b1, q1, rfl⟩ := own_form ho1; have HC1 := hid hc1.size; clear ho1 hg1 hk1 hc1 g1)
  obtain ⟨W, hW⟩ : ∃ W, W = w1.setCell ⟨ib, 4, none⟩ (.slice b1 (vs.length + k) q1) := ⟨_, rfl⟩
  rw [← hW] at WT ⊢
  have HWs : Hid (w.heap.size ≤ W.heap.size) := (by rw [hW]; show w.heap.size ≤ _; simpa [World.setCell] using HC1.out)
  clear hW c1 y1
  obtain ⟨x0, x1, x2, x3, x4, x5, x6⟩ := WT.out.rep.cells
  have xf5 := WT.out.rep.frozen 5
  dsimp only at x0 x1 x2 x3 x4 x5 x6 xf5
  have hbW := WT.out.rep.base_lt
  have hiW := WT.out.rep.ib_lt
  dsimp only at hiW
  have HOc := hid (fun X (k : Below W.heap.size W X) => Kit.owns_below WT.out.rep.oe k (Nat.le_refl _))
  go_region_law (refine Kit.step_append_own rfl (.tmp 24) (.tmp 30) 72 rfl base 3 i9 _ 1 8 Try.underlying72 hi9 hz09 hz19 hz29 rfl (by decide) _ vn.length (Kit.natVals vn) rfl (HOc.out _ (by repeat' first | with_reducible exact Below.refl _ _ | with_reducible assumption | with_reducible refine belows_drewN ?_ _ | with_reducible refine Below.drew ?_ | with_reducible refine Below.setCell ?_ ?_ _ | with_reducible refine Below.alloc ?_ ?_ _ | omega | (simp; done) | (simp; omega))) ⟨W.heap.size, 0, none⟩ 1 1 [.int .i64 ((vs.length : Int) + (k : Int))] rfl rfl (by intro j u hj; exact Kit.news_one W _ 3 j u hj) (Kit.ones_one rfl) (by unfold maxLen; omega) (by omega) (by first | omega | (simp; omega)) ?_; intro v2 w2 ho2 hg2 hk2; have hc2 := (Chg.of_below (S := fun i => (Value.slice ue vn.length pe).ownBlock = some i) (w := W) (by repeat' first | with_reducible exact Below.refl _ _ | with_reducible assumption | with_reducible refine belows_drewN ?_ _ | with_reducible refine Below.drew ?_ | with_reducible refine Below.setCell ?_ ?_ _ | with_reducible refine Below.alloc ?_ ?_ _ | omega | (simp; done) | (simp; omega))).grown hg2 (fun _ e => .inl e); have WT2 := hid (WT.out.rep.setE hc2 (endsSnoc ho2) (hk2.imp_right (fun e => ⟨_, (by first | omega | (simp; done) | (simp; omega)), e⟩))); have g2 := (hc2.block _ WT.out.rep.ib_lt (own_unlike_box WT.out.rep.oe WT.out.rep.ins (by decide))).trans WT.out.rep.ins; dsimp only at g2; have c2 : w2.cell? ⟨ib, 5, none⟩ = some (.slice ue vn.length pe) := (by simp [World.cell?, g2]); have y2 : w2.frozen? ⟨ib, 5, none⟩ = false := (by simp [World.frozen?, g2]); obtain ⟨b2, q2, rfl⟩ := own_form ho2; clear ho2 hg2 hk2 hc2 g2)
  all_goals
    obtain ⟨X, hX⟩ : ∃ X, X = w2.setCell ⟨ib, 5, none⟩ (.slice b2 (vn.length + 1) q2) := ⟨_, rfl⟩
    rw [← hX] at WT2 ⊢
    clear hX c2 y2 x0 x1 x2 x3 x4 x5 x6 xf5
    obtain ⟨x0, x1, x2, x3, x4, x5, x6⟩ := WT2.out.rep.cells
    dsimp only at x0 x1 x2 x3 x4 x5 x6
    have cb := (own_caps WT2.out.rep.od).2
    have HW := hid (WT.out.trans WT2.out)
    by_cases hq : vs.length = q1
    · have hk0 : k ≤ 0 := by omega
      subst hq
      go_wp2
      go_ret
      obtain rfl : k = 0 := by omega
      exact ⟨_, _, rfl, HW.out, _, _, rfl, Nat.zero_le _, fun h => absurd h (by omega)⟩
    · have hq2 : ¬ (q1 - vs.length = 0) := by omega
      clear hq
      have hb1 : 0 < k → ∃ g, b1 = some ⟨g, 0, none⟩ := fun hk => by
        obtain ⟨g, cap, h1, -⟩ := own_cell WT2.out.rep.od (by rw [List.length_append, List.length_replicate]; omega)
        exact ⟨g, (Value.slice.inj h1).1⟩
      have HB1 := hid hb1
      clear hb1
      go_wp2
      go_ret
      refine ⟨_, _, rfl, HW.out, _, _, rfl, by omega, fun hk => ?_⟩
      obtain ⟨g, rfl⟩ := HB1.out hk
      exact ⟨g, rfl, by simp [Addr.add]; omega⟩
end Go.Proofs.Ythembnakeikmeaa
namespace Go.Proofs.Ythembnakeikmeaa
open Go Go.RowKit

def RowPost (r : Value) (lo k : Nat) (w : World) (e : Ending) (w' : World) : Prop := ∃ v, e = .returned v ∧ Sub r 2 lo k v ∧ Below w.heap.size w w'

set_option maxRecDepth 100000 in
set_option maxHeartbeats 1000000 in
theorem rowV_any {w : World} {base : Nat} {H : HV} {s : Hp.St} (h : Rep w base H s) (i lo hi : Nat) (hl : s.vc.length ≤ 1073741824) (hm : s.ve.length ≤ 1073741824) (h0 : i = 0 → lo = 0) (h1 : 0 < i → s.ve[i - 1]? = some lo) (h2 : s.ve[i]? = some hi) (h3 : lo ≤ hi) (h4 : hi ≤ s.vc.length) :
    Calls Try.prog 47 #[.pointer (some ⟨H.ib, 4, none⟩), .int .i64 (i : Int)] w (RowPost H.d lo (hi - lo) w) := by
  unfold RowPost
  have hlt : i < s.ve.length := (List.getElem?_eq_some_iff.1 h2).1
  obtain ⟨ge, ce, hve, hce, hge, hcell⟩ := own_cell h.oe (by omega)
  have z2 := hcell _ _ (Kit.natVals_at h2)
  have z1 : 0 < i → w.cell? ⟨ge, i - 1, none⟩ = some (.int .i64 (lo : Int)) := fun hi0 => hcell _ _ (Kit.natVals_at (h1 hi0))
  have HB := hid (fun hk : 0 < hi - lo => own_cell h.od (by omega))
  have HV := hid hve
  clear hve hcell h1 h2 hge
  obtain ⟨hb, ib, va, vb, vc, vd, ve⟩ := H; obtain ⟨lim, cs, tc, te, vs, vn⟩ := s; have e1 := own_form h.oa; have e2 := own_form h.ob; have e3 := own_form h.oc; have e4 := own_form h.od; have e5 := own_form h.oe; dsimp only at *; obtain ⟨ua, pa, rfl⟩ := e1; obtain ⟨ub, pb, rfl⟩ := e2; obtain ⟨uc, pc, rfl⟩ := e3; obtain ⟨ud, pd, rfl⟩ := e4; obtain ⟨ue, pe, rfl⟩ := e5; have hcl := h.cells; have hgen := h.hb_lt; have hgen2 := h.ib_lt; have hgen3 := h.li; dsimp only at hcl hgen hgen2 hgen3; obtain ⟨k0, k1, k2, k3, k4, k5, k6⟩ := hcl; have HR := hid h; clear h
  obtain ⟨rfl, -, rfl⟩ := Value.slice.inj HV.out
  clear HV
  have hcap := (own_caps HR.out.od).2
  try dsimp only at hcap
  by_cases hi0 : i = 0
  · obtain rfl := h0 hi0
    subst hi0
    clear z1 h0
    go_enter Try.func47, Try.ntmps47
    go_wp2
    go_quiet (fail)
    go_wp2
    go_ret
    refine ⟨_, rfl, ⟨_, _, rfl, by omega, fun hk => ?_⟩, (by repeat' first | with_reducible exact Below.refl _ _ | with_reducible assumption | with_reducible refine belows_drewN ?_ _ | with_reducible refine Below.drew ?_ | with_reducible refine Below.setCell ?_ ?_ _ | with_reducible refine Below.alloc ?_ ?_ _ | omega | (simp; done) | (simp; omega))⟩
    obtain ⟨g, c, e, -⟩ := HB.out hk
    obtain ⟨rfl, -, -⟩ := Value.slice.inj e
    exact ⟨g, rfl, by simp⟩
  · have z3 := z1 (by omega)
    have hi1 : 1 ≤ i := by omega
    clear z1 h0 hi0
    go_enter Try.func47, Try.ntmps47
    go_wp2
    go_quiet (fail)
    go_wp2
    all_goals go_ret
    all_goals refine ⟨_, rfl, ⟨_, _, rfl, by omega, fun hk => ?_⟩, (by repeat' first | with_reducible exact Below.refl _ _ | with_reducible assumption | with_reducible refine belows_drewN ?_ _ | with_reducible refine Below.drew ?_ | with_reducible refine Below.setCell ?_ ?_ _ | with_reducible refine Below.alloc ?_ ?_ _ | omega | (simp; done) | (simp; omega))⟩
    · omega
    · obtain ⟨g, c, e, -⟩ := HB.out hk
      obtain ⟨rfl, -, -⟩ := Value.slice.inj e
      exact ⟨g, rfl, by simp [Addr.add]; omega⟩
end Go.Proofs.Ythembnakeikmeaa
namespace Go.Proofs.Ythembnakeikmeaa
open Go Go.RowKit


set_option maxRecDepth 100000 in
set_option maxHeartbeats 1000000 in
theorem rowT_any {w : World} {base : Nat} {H : HV} {s : Hp.St} (h : Rep w base H s) (i lo hi : Nat) (hl : s.tc.length ≤ 1073741824) (hm : s.te.length ≤ 1073741824) (h0 : i = 0 → lo = 0) (h1 : 0 < i → s.te[i - 1]? = some lo) (h2 : s.te[i]? = some hi) (h3 : lo ≤ hi) (h4 : hi ≤ s.tc.length) :
    Calls Try.prog 60 #[.pointer (some ⟨H.ib, 2, none⟩), .int .i64 (i : Int)] w (RowPost H.b lo (hi - lo) w) := by
  unfold RowPost
  have hlt : i < s.te.length := (List.getElem?_eq_some_iff.1 h2).1
  obtain ⟨ge, ce, hve, hce, hge, hcell⟩ := own_cell h.oc (by omega)
  have z2 := hcell _ _ (Kit.natVals_at h2)
  have z1 : 0 < i → w.cell? ⟨ge, i - 1, none⟩ = some (.int .i64 (lo : Int)) := fun hi0 => hcell _ _ (Kit.natVals_at (h1 hi0))
  have HB := hid (fun hk : 0 < hi - lo => own_cell h.ob (by omega))
  have HV := hid hve
  clear hve hcell h1 h2 hge
  obtain ⟨hb, ib, va, vb, vc, vd, ve⟩ := H; obtain ⟨lim, cs, tc, te, vs, vn⟩ := s; have e1 := own_form h.oa; have e2 := own_form h.ob; have e3 := own_form h.oc; have e4 := own_form h.od; have e5 := own_form h.oe; dsimp only at *; obtain ⟨ua, pa, rfl⟩ := e1; obtain ⟨ub, pb, rfl⟩ := e2; obtain ⟨uc, pc, rfl⟩ := e3; obtain ⟨ud, pd, rfl⟩ := e4; obtain ⟨ue, pe, rfl⟩ := e5; have hcl := h.cells; have hgen := h.hb_lt; have hgen2 := h.ib_lt; have hgen3 := h.li; dsimp only at hcl hgen hgen2 hgen3; obtain ⟨k0, k1, k2, k3, k4, k5, k6⟩ := hcl; have HR := hid h; clear h
  obtain ⟨rfl, -, rfl⟩ := Value.slice.inj HV.out
  clear HV
  have hcap := (own_caps HR.out.ob).2
  try dsimp only at hcap
  by_cases hi0 : i = 0
  · obtain rfl := h0 hi0
    subst hi0
    clear z1 h0
    go_enter Try.func60, Try.ntmps60
    go_wp2
    go_quiet (fail)
    go_wp2
    go_ret
    refine ⟨_, rfl, ⟨_, _, rfl, by omega, fun hk => ?_⟩, (by repeat' first | with_reducible exact Below.refl _ _ | with_reducible assumption | with_reducible refine belows_drewN ?_ _ | with_reducible refine Below.drew ?_ | with_reducible refine Below.setCell ?_ ?_ _ | with_reducible refine Below.alloc ?_ ?_ _ | omega | (simp; done) | (simp; omega))⟩
    obtain ⟨g, c, e, -⟩ := HB.out hk
    obtain ⟨rfl, -, -⟩ := Value.slice.inj e
    exact ⟨g, rfl, by simp⟩
  · have z3 := z1 (by omega)
    have hi1 : 1 ≤ i := by omega
    clear z1 h0 hi0
    go_enter Try.func60, Try.ntmps60
    go_wp2
    go_quiet (fail)
    go_wp2
    all_goals go_ret
    all_goals refine ⟨_, rfl, ⟨_, _, rfl, by omega, fun hk => ?_⟩, (by repeat' first | with_reducible exact Below.refl _ _ | with_reducible assumption | with_reducible refine belows_drewN ?_ _ | with_reducible refine Below.drew ?_ | with_reducible refine Below.setCell ?_ ?_ _ | with_reducible refine Below.alloc ?_ ?_ _ | omega | (simp; done) | (simp; omega))⟩
    · omega
    · obtain ⟨g, c, e, -⟩ := HB.out hk
      obtain ⟨rfl, -, -⟩ := Value.slice.inj e
      exact ⟨g, rfl, by simp [Addr.add]; omega⟩
end Go.Proofs.Ythembnakeikmeaa
namespace Go.Proofs.Ythembnakeikmeaa
open Go Go.RowKit

set_option maxRecDepth 100000 in
theorem isMade_any {w : World} {base : Nat} {H : HV} {s : Hp.St} (h : Rep w base H s) :
    Calls Try.prog 36 #[.pointer (some ⟨H.hb, 0, none⟩)] w fun e w' => e = .returned (.bool true) ∧ w = w' := by
  obtain ⟨hb, ib, va, vb, vc, vd, ve⟩ := H; obtain ⟨lim, cs, tc, te, vs, vn⟩ := s; have e1 := own_form h.oa; have e2 := own_form h.ob; have e3 := own_form h.oc; have e4 := own_form h.od; have e5 := own_form h.oe; dsimp only at *; obtain ⟨ua, pa, rfl⟩ := e1; obtain ⟨ub, pb, rfl⟩ := e2; obtain ⟨uc, pc, rfl⟩ := e3; obtain ⟨ud, pd, rfl⟩ := e4; obtain ⟨ue, pe, rfl⟩ := e5; have hcl := h.cells; have hgen := h.hb_lt; have hgen2 := h.ib_lt; have hgen3 := h.li; dsimp only at hcl hgen hgen2 hgen3; obtain ⟨k0, k1, k2, k3, k4, k5, k6⟩ := hcl; have HR := hid h; clear h
  go_enter Try.func36, Try.ntmps36
  go_wp2
  go_ret
  exact ⟨rfl, rfl⟩
/-- A pointer to no heap: nil, or a struct that is zero. -/
def NoHeap (w : World) (v : Value) : Prop := v = .pointer none ∨ ∃ b, v = .pointer (some ⟨b, 0, none⟩) ∧ w.cell? ⟨b, 0, none⟩ = some (.pointer none) ∧ b < w.heap.size
theorem NoHeap.below {w w' : World} {v : Value} (h : NoHeap w v) (hb : Below w.heap.size w w') : NoHeap w' v := by
  rcases h with h | ⟨b, rfl, h1, h2⟩
  · exact .inl h
  · exact .inr ⟨b, rfl, (hb.cell (p := ⟨b, 0, none⟩) h2).trans h1, Nat.lt_of_lt_of_le h2 hb.size⟩
set_option maxRecDepth 100000 in
theorem Used_any {w : World} {base : Nat} {H : HV} {s : Hp.St} (h : Rep w base H s) (hn : s.cs.length + s.vc.length ≤ 140737488355328) :
    Calls Try.prog 11 #[.pointer (some ⟨H.hb, 0, none⟩)] w fun e w' => e = .returned (.int .i64 ((s.cs.length : Int) + (s.vc.length : Int))) ∧ ∃ m, w' = w.drewN m := by
  have HM := hid (isMade_any h)
  have HU := hid (used_any h hn)
  obtain ⟨hb, ib, va, vb, vc, vd, ve⟩ := H; obtain ⟨lim, cs, tc, te, vs, vn⟩ := s; have e1 := own_form h.oa; have e2 := own_form h.ob; have e3 := own_form h.oc; have e4 := own_form h.od; have e5 := own_form h.oe; dsimp only at *; obtain ⟨ua, pa, rfl⟩ := e1; obtain ⟨ub, pb, rfl⟩ := e2; obtain ⟨uc, pc, rfl⟩ := e3; obtain ⟨ud, pd, rfl⟩ := e4; obtain ⟨ue, pe, rfl⟩ := e5; have hcl := h.cells; have hgen := h.hb_lt; have hgen2 := h.ib_lt; have hgen3 := h.li; dsimp only at hcl hgen hgen2 hgen3; obtain ⟨k0, k1, k2, k3, k4, k5, k6⟩ := hcl; have HR := hid h; clear h
  go_enter Try.func11, Try.ntmps11
  go_wp2_with (first | (go_at_call 36; refine HM.out.mono ?_; rintro e w' ⟨rfl, rfl⟩) | (go_at_call 37; refine HU.out.mono ?_; rintro e w1 ⟨rfl, m, rfl⟩))
  go_ret
  exact ⟨rfl, m, rfl⟩
set_option maxRecDepth 100000 in
theorem Limit_any {w : World} {base : Nat} {H : HV} {s : Hp.St} (h : Rep w base H s) :
    Calls Try.prog 18 #[.pointer (some ⟨H.hb, 0, none⟩)] w fun e w' => e = .returned (.int .i64 (s.lim : Int)) ∧ w = w' := by
  have HM := hid (isMade_any h)
  obtain ⟨hb, ib, va, vb, vc, vd, ve⟩ := H; obtain ⟨lim, cs, tc, te, vs, vn⟩ := s; have e1 := own_form h.oa; have e2 := own_form h.ob; have e3 := own_form h.oc; have e4 := own_form h.od; have e5 := own_form h.oe; dsimp only at *; obtain ⟨ua, pa, rfl⟩ := e1; obtain ⟨ub, pb, rfl⟩ := e2; obtain ⟨uc, pc, rfl⟩ := e3; obtain ⟨ud, pd, rfl⟩ := e4; obtain ⟨ue, pe, rfl⟩ := e5; have hcl := h.cells; have hgen := h.hb_lt; have hgen2 := h.ib_lt; have hgen3 := h.li; dsimp only at hcl hgen hgen2 hgen3; obtain ⟨k0, k1, k2, k3, k4, k5, k6⟩ := hcl; have HR := hid h; clear h
  go_enter Try.func18, Try.ntmps18
  go_wp2_with (go_at_call 36; refine HM.out.mono ?_; rintro e w' ⟨rfl, rfl⟩)
  go_ret
  exact ⟨rfl, rfl⟩
set_option maxRecDepth 100000 in
theorem Many_any {w : World} {base : Nat} {H : HV} {s : Hp.St} (h : Rep w base H s) :
    Calls Try.prog 17 #[.pointer (some ⟨H.hb, 0, none⟩)] w fun e w' => e = .returned (.int .i64 (s.cs.length : Int)) ∧ w = w' := by
  have HM := hid (isMade_any h)
  have HU := hid (many_any h)
  obtain ⟨hb, ib, va, vb, vc, vd, ve⟩ := H; obtain ⟨lim, cs, tc, te, vs, vn⟩ := s; have e1 := own_form h.oa; have e2 := own_form h.ob; have e3 := own_form h.oc; have e4 := own_form h.od; have e5 := own_form h.oe; dsimp only at *; obtain ⟨ua, pa, rfl⟩ := e1; obtain ⟨ub, pb, rfl⟩ := e2; obtain ⟨uc, pc, rfl⟩ := e3; obtain ⟨ud, pd, rfl⟩ := e4; obtain ⟨ue, pe, rfl⟩ := e5; have hcl := h.cells; have hgen := h.hb_lt; have hgen2 := h.ib_lt; have hgen3 := h.li; dsimp only at hcl hgen hgen2 hgen3; obtain ⟨k0, k1, k2, k3, k4, k5, k6⟩ := hcl; have HR := hid h; clear h
  go_enter Try.func17, Try.ntmps17
  go_wp2_with (first | (go_at_call 36; refine HM.out.mono ?_; rintro e w' ⟨rfl, rfl⟩) | (go_at_call 43; refine HU.out.mono ?_; rintro e w1 ⟨rfl, rfl⟩))
  go_ret
  exact ⟨rfl, rfl⟩
/-- A new heap. -/
def St0 (lim : Nat) : Hp.St := ⟨lim, [], [], [], [], []⟩
theorem rep_new (w : World) (base lim : Nat) (hb : base ≤ w.heap.size) :
    Rep ((w.alloc (.cells #[.int .i64 lim, .slice none 0 0, .slice none 0 0, .slice none 0 0, .slice none 0 0, .slice none 0 0] 79)).alloc (.cells #[.pointer (some ⟨w.heap.size, 0, none⟩)] 59)) base
      ⟨w.heap.size + 1, w.heap.size, .slice none 0 0, .slice none 0 0, .slice none 0 0, .slice none 0 0, .slice none 0 0⟩ (St0 lim) := by
  refine ⟨?_, ?_, World.ownsRow_nil _ _ _ _, World.ownsRow_nil _ _ _ _, World.ownsRow_nil _ _ _ _, World.ownsRow_nil _ _ _ _, World.ownsRow_nil _ _ _ _, ?_, ?_, ?_, by simp; omega, hb⟩
  · have := heap_alloc_new (w.alloc (.cells #[.int .i64 lim, .slice none 0 0, .slice none 0 0, .slice none 0 0, .slice none 0 0, .slice none 0 0] 79)) (.cells #[.pointer (some ⟨w.heap.size, 0, none⟩)] 59)
    rw [World.size_alloc] at this
    exact this
  · rw [Below.heap_alloc _ _ _ (by simp)]
    exact heap_alloc_new w _
  all_goals
    intro k hk
    simp [Value.ownBlock] at hk
def NewPost (base lim : Nat) (w : World) (e : Ending) (w' : World) : Prop := ∃ H, e = .returned (.tuple #[.pointer (some ⟨H.hb, 0, none⟩), .int .i64 0]) ∧ Rep w' base H (St0 lim) ∧ Below w.heap.size w w' ∧ (∀ k, H.foot k → w.heap.size ≤ k)
set_option maxRecDepth 100000 in
theorem New_any (base lim : Nat) (w : World) (hb : base ≤ w.heap.size) (hl : lim ≤ 1048576) :
    Calls Try.prog 7 #[.int .i64 (lim : Int)] w (NewPost base lim w) := by
  go_enter Try.func7, Try.ntmps7
  go_wp2
  go_ret2
  refine ⟨_, rfl, rep_new w base lim hb, (by repeat' first | with_reducible exact Below.refl _ _ | with_reducible assumption | with_reducible refine belows_drewN ?_ _ | with_reducible refine Below.drew ?_ | with_reducible refine Below.setCell ?_ ?_ _ | with_reducible refine Below.alloc ?_ ?_ _ | omega | (simp; done) | (simp; omega)), ?_⟩
  rintro k (rfl | rfl | e | e | e | e | e)
  · exact Nat.le_succ _
  · exact Nat.le_refl _
  all_goals simp [Value.ownBlock] at e
set_option maxRecDepth 100000 in
theorem New_no (lim : Int) (w : World) (hl : lim < 0 ∨ 1048576 < lim) :
    Calls Try.prog 7 #[.int .i64 lim] w fun e w' => e = .returned (.tuple #[.pointer none, .int .i64 1]) ∧ w = w' := by
  rcases hl with hl | hl
  · have hd : decide (lim < 0) = true := by simpa using hl
    go_enter Try.func7, Try.ntmps7
    go_wp2
    go_ret2
    exact ⟨rfl, rfl⟩
  · have hd : decide (lim < 0) = false := by simp; omega
    have hd2 : decide (1048576 < lim) = true := by simpa using hl
    go_enter Try.func7, Try.ntmps7
    go_wp2
    go_ret2
    exact ⟨rfl, rfl⟩
/-- A type's first value. -/
def zeroOf (t : Hp.Ty) : Option Hp.Vl := if t.k = 1 then some ⟨1, 0⟩ else if t.k = 2 then some ⟨2, 0⟩ else if t.k = 4 then some ⟨3, 0⟩ else none
def zV (o : Option Hp.Vl) : Value := vA (o.getD Hp.V0)
set_option maxRecDepth 100000 in
theorem zero_any (t : Hp.Ty) (w : World) :
    Calls Try.prog 38 #[tA t] w fun e w' => e = .returned (.tuple #[zV (zeroOf t), .bool (zeroOf t).isSome]) ∧ Below w.heap.size w w' := by
  obtain ⟨k, str⟩ := t
  unfold tA zeroOf
  dsimp only
  by_cases h1 : k = 1
  · subst h1
    go_enter Try.func38, Try.ntmps38
    go_wp2
    exact bodyPost_ret (v := .tuple #[vA ⟨1, 0⟩, .bool true]) (by simp [results, Try.results38, go_sem, vA]) rfl ⟨rfl, (by repeat' first | with_reducible exact Below.refl _ _ | with_reducible assumption | with_reducible refine belows_drewN ?_ _ | with_reducible refine Below.drew ?_ | with_reducible refine Below.setCell ?_ ?_ _ | with_reducible refine Below.alloc ?_ ?_ _ | omega | (simp; done) | (simp; omega))⟩
  · by_cases h2 : k = 2
    · subst h2
      go_enter Try.func38, Try.ntmps38
      go_wp2
      exact bodyPost_ret (v := .tuple #[vA ⟨2, 0⟩, .bool true]) (by simp [results, Try.results38, go_sem, vA]) rfl ⟨rfl, (by repeat' first | with_reducible exact Below.refl _ _ | with_reducible assumption | with_reducible refine belows_drewN ?_ _ | with_reducible refine Below.drew ?_ | with_reducible refine Below.setCell ?_ ?_ _ | with_reducible refine Below.alloc ?_ ?_ _ | omega | (simp; done) | (simp; omega))⟩
    · by_cases h4 : k = 4
      · subst h4
        go_enter Try.func38, Try.ntmps38
        go_wp2
        exact bodyPost_ret (v := .tuple #[vA ⟨3, 0⟩, .bool true]) (by simp [results, Try.results38, go_sem, vA]) rfl ⟨rfl, (by repeat' first | with_reducible exact Below.refl _ _ | with_reducible assumption | with_reducible refine belows_drewN ?_ _ | with_reducible refine Below.drew ?_ | with_reducible refine Below.setCell ?_ ?_ _ | with_reducible refine Below.alloc ?_ ?_ _ | omega | (simp; done) | (simp; omega))⟩
      · have d1 : (k == 1) = false := by simpa using h1
        have d2 : (k == 2) = false := by simpa using h2
        have d4 : (k == 4) = false := by simpa using h4
        have HK := hid (show (if k = 1 then some (⟨1, 0⟩ : Hp.Vl) else if k = 2 then some ⟨2, 0⟩ else if k = 4 then some ⟨3, 0⟩ else none) = none by rw [if_neg h1, if_neg h2, if_neg h4])
        rw [HK.out]
        clear h1 h2 h4
        go_enter Try.func38, Try.ntmps38
        go_wp2
        exact bodyPost_ret (v := .tuple #[vA Hp.V0, .bool false]) (by simp [results, Try.results38, go_sem, vA, Hp.V0]) rfl ⟨rfl, (by repeat' first | with_reducible exact Below.refl _ _ | with_reducible assumption | with_reducible refine belows_drewN ?_ _ | with_reducible refine Below.drew ?_ | with_reducible refine Below.setCell ?_ ?_ _ | with_reducible refine Below.alloc ?_ ?_ _ | omega | (simp; done) | (simp; omega))⟩
end Go.Proofs.Ythembnakeikmeaa
namespace Go.Proofs.Ythembnakeikmeaa
open Go Go.RowKit

theorem owns_set {w : World} {base : Nat} {e : TypeId} {size g n cap : Nat} {xs : List Value} (h : w.ownsRow base e size (.slice (some ⟨g, 0, none⟩) n cap) n xs) (i : Nat) (u : Value) :
    (w.setCell ⟨g, i, none⟩ u).ownsRow base e size (.slice (some ⟨g, 0, none⟩) n cap) n (xs.set i u) := by
  refine ⟨by rw [List.length_set]; exact h.1, ?_⟩
  rcases h.2 with ⟨h2, -⟩ | ⟨g', cap', cur, hv, hg, hh, h1, h2, h3, h4⟩
  · cases h2
  · obtain ⟨e1, -, rfl⟩ := Value.slice.inj hv
    obtain rfl : g = g' := by simpa using e1
    refine .inr ⟨g, cap, cur.setIfInBounds i u, rfl, hg, box_set hh i u, h1, h2, by rw [Array.size_setIfInBounds]; exact h3, ?_⟩
    rw [Array.toList_setIfInBounds, ← h4]
    exact List.take_set
theorem flat_set2 {α : Type} {f : α → List Value} {a b : Value} {v : α} (hf : ∀ x, (f x).length = 2) (hv : f v = [a, b]) : ∀ {l : List α} {j : Nat}, j < l.length → ((l.flatMap f).set (j * 2) a).set (j * 2 + 1) b = (l.set j v).flatMap f
  | [], _, h => by simp at h
  | x :: l, 0, _ => by
    have hx := hf x
    match hfx : f x, hx with
    | [p, q], _ => simp [hfx, hv]
  | x :: l, j + 1, h => by
    have hx := hf x
    have ih := flat_set2 (v := v) hf hv (l := l) (j := j) (by simpa using h)
    rw [List.set_cons_succ, List.flatMap_cons, List.flatMap_cons, ← ih, List.set_append, if_neg (by omega), List.set_append, if_neg (by omega), hx]
    congr 2
    · congr 1; omega
    · omega
theorem set_next {α : Type} {l zs : List α} {z0 z : α} {n k : Nat} (hn : zs.length = n) (hk : zs[k]? = some z) : (l ++ (zs.take k ++ List.replicate (n - k) z0)).set (l.length + k) z = l ++ (zs.take (k + 1) ++ List.replicate (n - (k + 1)) z0) := by
  have hlt : k < zs.length := (List.getElem?_eq_some_iff.1 hk).1
  have hz := (List.getElem?_eq_some_iff.1 hk).2
  rw [List.set_append, if_neg (by omega), List.set_append, if_neg (by rw [List.length_take]; omega), List.length_take]
  rw [show l.length + k - l.length - min k zs.length = 0 by omega, show n - k = (n - (k + 1)) + 1 by omega, List.replicate_succ, List.set_cons_zero, List.take_add_one, hk]
  simp
/-- A block known whole. -/
def BX (w : World) (b : Nat) (cs : Array Value) (T : TypeId) : Prop := w.heap[b]? = some (.cells cs T (0, 0))
theorem BX.new (w : World) (cs : Array Value) (T : TypeId) : BX (w.alloc (.cells cs T)) w.heap.size cs T := heap_alloc_new w _
theorem BX.sz {w : World} {b : Nat} {cs : Array Value} {T : TypeId} (h : BX w b cs T) : b < w.heap.size := (Array.getElem?_eq_some_iff.1 h).1
theorem BX.chg {S : Nat → Prop} {w w' : World} {b : Nat} {cs : Array Value} {T : TypeId} (h : BX w b cs T) (hc : Chg S w w') (hs : ¬ S b) : BX w' b cs T := (hc.block b h.sz hs).trans h
theorem BX.below {w w' : World} {b : Nat} {cs : Array Value} {T : TypeId} (h : BX w b cs T) (hb : Below w.heap.size w w') : BX w' b cs T := (hb.block b h.sz).trans h
theorem BX.cell {w : World} {b : Nat} {cs : Array Value} {T : TypeId} (h : BX w b cs T) (j : Nat) : w.cell? ⟨b, j, none⟩ = cs[j]? := by
  simp only [World.cell?]
  rw [show w.heap[(⟨b, j, none⟩ : Addr).block]? = _ from h]
  simp
theorem BX.frozen {w : World} {b : Nat} {cs : Array Value} {T : TypeId} (h : BX w b cs T) (j : Nat) : w.frozen? ⟨b, j, none⟩ = false := by
  simp only [World.frozen?]
  rw [show w.heap[(⟨b, j, none⟩ : Addr).block]? = _ from h]
  simp
theorem Went.off {w w' : World} {base : Nat} {H H' : HV} {s : Hp.St} (h : Went w w' base H H' s) {b : Nat} (hb : b < w.heap.size) (hf : ¬ H.foot b) : ¬ H'.foot b := fun e => by
  rcases h.foot b e with h1 | h1
  · exact hf h1
  · omega
theorem own_some {w : World} {base : Nat} {e : TypeId} {size : Nat} {v : Value} {n : Nat} {xs : List Value} (h : w.ownsRow base e size v n xs) {g : Nat} (hg : v.ownBlock = some g) : ∃ cap, v = .slice (some ⟨g, 0, none⟩) n cap := by
  rcases h.2 with ⟨rfl, -⟩ | ⟨g', cap, cur, rfl, -⟩
  · simp [Value.ownBlock] at hg
  · simp only [Value.ownBlock, Option.some.injEq] at hg
    subst hg
    exact ⟨cap, rfl⟩
theorem own_at {w : World} {base : Nat} {e : TypeId} {size : Nat} {v : Value} {n : Nat} {xs : List Value} (h : w.ownsRow base e size v n xs) {g : Nat} (hg : v.ownBlock = some g) : (∀ i u, xs[i]? = some u → w.cell? ⟨g, i, none⟩ = some u) ∧ ∀ i, w.frozen? ⟨g, i, none⟩ = false := by
  rcases h.2 with ⟨rfl, -⟩ | ⟨g', cap, cur, rfl, hg', hh, hc1, hc2, hc3, ht⟩
  · simp [Value.ownBlock] at hg
  · simp only [Value.ownBlock, Option.some.injEq] at hg
    subst hg
    refine ⟨fun i u hi => ?_, fun i => by simp [World.frozen?, hh]⟩
    have hlt : i < xs.length := by rw [List.getElem?_eq_some_iff] at hi; exact hi.1
    have hx := h.1
    have : cur[i]? = some u := by
      rw [← ht, List.getElem?_take_of_lt (by omega)] at hi
      simpa using hi
    simp [World.cell?, hh, this]
theorem tL_at {l : List Hp.Ty} {j : Nat} {t : Hp.Ty} (h : l[j]? = some t) : (l.flatMap tL)[j * 2]? = some (.int .i64 t.k) ∧ (l.flatMap tL)[j * 2 + 1]? = some (.string t.s) :=
  ⟨by have := Kit.flat_at (f := tL) (s := 2) tL_len h 0 (by decide); exact this, by have := Kit.flat_at (f := tL) (s := 2) tL_len h 1 (by decide); exact this⟩
theorem vL_at {l : List Hp.Vl} {j : Nat} {t : Hp.Vl} (h : l[j]? = some t) : (l.flatMap vL)[j * 2]? = some (.int .i64 t.k) ∧ (l.flatMap vL)[j * 2 + 1]? = some (.int .i64 t.n) :=
  ⟨by have := Kit.flat_at (f := vL) (s := 2) vL_len h 0 (by decide); exact this, by have := Kit.flat_at (f := vL) (s := 2) vL_len h 1 (by decide); exact this⟩
/-- What a store to a place of the values leaves. -/
theorem Rep.putV {w : World} {base : Nat} {H : HV} {s : Hp.St} (h : Rep w base H s) {g j : Nat} (hg : H.d.ownBlock = some g) (hj : j < s.vc.length) (v : Hp.Vl) :
    Went w ((w.setCell ⟨g, j * 2, none⟩ (.int .i64 v.k)).setCell ⟨g, j * 2 + 1, none⟩ (.int .i64 v.n)) base H H { s with vc := s.vc.set j v } := by
  have hS : Chg (fun k => k = g) w ((w.setCell ⟨g, j * 2, none⟩ (.int .i64 v.k)).setCell ⟨g, j * 2 + 1, none⟩ (.int .i64 v.n)) := ((Chg.refl (fun k => k = g) w).set (p := ⟨g, j * 2, none⟩) (.inl rfl) _).set (p := ⟨g, j * 2 + 1, none⟩) (.inl rfl) _
  obtain ⟨cap, hv⟩ := own_some h.od hg
  have hod := h.od
  rw [hv] at hod
  have h2 := owns_set (owns_set hod (j * 2) (.int .i64 v.k)) (j * 2 + 1) (.int .i64 v.n)
  rw [flat_set2 (f := vL) (v := v) vL_len rfl hj] at h2
  refine ⟨⟨(hS.block _ h.hb_lt (fun e => own_unlike_box h.od h.box (by decide) (e ▸ hg))).trans h.box, (hS.block _ h.ib_lt (fun e => own_unlike_box h.od h.ins (by decide) (e ▸ hg))).trans h.ins,
    owns_chg h.oa hS (fun k e e2 => own_unlike h.oa h.od (by decide) k e (e2 ▸ hg)), owns_chg h.ob hS (fun k e e2 => own_unlike h.ob h.od (by decide) k e (e2 ▸ hg)), owns_chg h.oc hS (fun k e e2 => own_unlike h.oc h.od (by decide) k e (e2 ▸ hg)),
    ?_, owns_chg h.oe hS (fun k e e2 => own_unlike h.oe h.od (by decide) k e (e2 ▸ hg)), h.ac, h.ae, h.ce, h.lh, h.li⟩, hS.mono (fun i _ e => ?_), rfl, rfl, fun k e => .inl e⟩
  · show World.ownsRow _ _ _ _ H.d _ _
    rw [hv, List.length_set]
    exact h2
  · exact .inr (.inr (.inr (.inr (.inr (.inl (e ▸ hg))))))
/-- What a store to a place of the types leaves. -/
theorem Rep.putT {w : World} {base : Nat} {H : HV} {s : Hp.St} (h : Rep w base H s) {g j : Nat} (hg : H.b.ownBlock = some g) (hj : j < s.tc.length) (v : Hp.Ty) :
    Went w ((w.setCell ⟨g, j * 2, none⟩ (.int .i64 v.k)).setCell ⟨g, j * 2 + 1, none⟩ (.string v.s)) base H H { s with tc := s.tc.set j v } := by
  have hS : Chg (fun k => k = g) w ((w.setCell ⟨g, j * 2, none⟩ (.int .i64 v.k)).setCell ⟨g, j * 2 + 1, none⟩ (.string v.s)) := ((Chg.refl (fun k => k = g) w).set (p := ⟨g, j * 2, none⟩) (.inl rfl) _).set (p := ⟨g, j * 2 + 1, none⟩) (.inl rfl) _
  obtain ⟨cap, hv⟩ := own_some h.ob hg
  have hod := h.ob
  rw [hv] at hod
  have h2 := owns_set (owns_set hod (j * 2) (.int .i64 v.k)) (j * 2 + 1) (.string v.s)
  rw [flat_set2 (f := tL) (v := v) tL_len rfl hj] at h2
  refine ⟨⟨(hS.block _ h.hb_lt (fun e => own_unlike_box h.ob h.box (by decide) (e ▸ hg))).trans h.box, (hS.block _ h.ib_lt (fun e => own_unlike_box h.ob h.ins (by decide) (e ▸ hg))).trans h.ins,
    owns_chg h.oa hS (fun k e e2 => own_unlike h.oa h.ob (by decide) k e (e2 ▸ hg)), ?_, owns_chg h.oc hS (fun k e e2 => own_unlike h.oc h.ob (by decide) k e (e2 ▸ hg)), owns_chg h.od hS (fun k e e2 => own_unlike h.od h.ob (by decide) k e (e2 ▸ hg)),
    owns_chg h.oe hS (fun k e e2 => own_unlike h.oe h.ob (by decide) k e (e2 ▸ hg)), h.ac, h.ae, h.ce, h.lh, h.li⟩, hS.mono (fun i _ e => ?_), rfl, rfl, fun k e => .inl e⟩
  · show World.ownsRow _ _ _ _ H.b _ _
    rw [hv, List.length_set]
    exact h2
  · exact .inr (.inr (.inr (.inl (e ▸ hg))))
end Go.Proofs.Ythembnakeikmeaa
namespace Go.Proofs.Ythembnakeikmeaa
open Go Go.RowKit

def AddPost (base : Nat) (H : HV) (s' : Hp.St) (n : Int) (w : World) (e : Ending) (w' : World) : Prop := ∃ H', e = .returned (.int .i64 n) ∧ Went w w' base H H' s'
set_option maxRecDepth 100000 in
set_option maxHeartbeats 2000000 in
theorem addArray_any {w : World} {base : Nat} {H : HV} {s : Hp.St} (h : Rep w base H s) (t : Hp.Ty) (z : Hp.Vl) (n : Nat) (hz : zeroOf t = some z) (hn : s.vc.length + n ≤ 1073741000) (hm : s.ve.length ≤ 1073741000) (hc : s.cs.length ≤ 1073741000) (ht : s.tc.length ≤ 1073741000) (hu : s.te.length ≤ 1073741000) :
    Calls Try.prog 40 #[.pointer (some ⟨H.ib, 0, none⟩), tA t, .int .i64 (n : Int)] w
      (AddPost base H { s with cs := s.cs ++ [-1], tc := s.tc ++ [t], te := s.te ++ [s.tc.length + 1], vc := s.vc ++ List.replicate n z, ve := s.ve ++ [s.vc.length + n] } ((s.cs.length : Int) + 1) w) := by
  obtain ⟨i9, hi9, hz09, hz19, hz29⟩ := info_parts infoI
  have HZ := hid (fun W => zero_any t W)
  rw [hz] at HZ
  unfold AddPost
  unfold tA zV vA at HZ
  unfold tA
  dsimp only [Option.getD_some, Option.isSome_some] at HZ
  clear hz
  obtain ⟨tk, ts⟩ := t
  have hlow := fun k (e : H.foot k) => (h.low k e).2
  have h0 := h.alloc (.cells #[.int .i64 tk, .string ts] 33)
  have HF := hid (show ¬ H.foot w.heap.size from fun e => by have := hlow _ e; omega)
  have HOa := hid (fun X (k : Below w.heap.size w X) => Kit.owns_below h.oa k (Nat.le_refl _))
  have HR0 := hid h0
  have hbl := h.base_lt
  clear hlow h0
  obtain ⟨hb, ib, va, vb, vc, vd, ve⟩ := H; obtain ⟨lim, cs, tc, te, vs, vn⟩ := s; have e1 := own_form h.oa; have e2 := own_form h.ob; have e3 := own_form h.oc; have e4 := own_form h.od; have e5 := own_form h.oe; dsimp only at *; obtain ⟨ua, pa, rfl⟩ := e1; obtain ⟨ub, pb, rfl⟩ := e2; obtain ⟨uc, pc, rfl⟩ := e3; obtain ⟨ud, pd, rfl⟩ := e4; obtain ⟨ue, pe, rfl⟩ := e5; have hcl := h.cells; have hgen := h.hb_lt; have hgen2 := h.ib_lt; have hgen3 := h.li; dsimp only at hcl hgen hgen2 hgen3; obtain ⟨k0, k1, k2, k3, k4, k5, k6⟩ := hcl; have HR := hid h; clear h
  go_enter Try.func40, Try.ntmps40
  go_wp2_with (at_builtin; refine wpList_append_own_at _ rfl (.tmp 15) (.tmp 16) 72 rfl base 3 i9 _ 1 8 Try.underlying72 hi9 hz09 hz19 hz29 rfl (by decide) (.slice ua cs.length pa) cs.length (iL cs) rfl (HOa.out _ (by repeat' first | with_reducible exact Below.refl _ _ | with_reducible assumption | with_reducible refine belows_drewN ?_ _ | with_reducible refine Below.drew ?_ | with_reducible refine Below.setCell ?_ ?_ _ | with_reducible refine Below.alloc ?_ ?_ _ | omega | (simp; done) | (simp; omega))) ⟨w.heap.size + 1, 0, none⟩ 1 1 [.int .i64 (-1)] rfl rfl (by have := Kit.news_one (w.alloc (.cells #[.int .i64 tk, .string ts] 33)) (.int .i64 (-1)) 3; rw [World.size_alloc] at this; exact this) (Kit.ones_one rfl) (by unfold maxLen; omega) (by omega) (by simp; omega) ?_; intro v1 w1 ho1 hg1 _ hk1; have hc1 := (Chg.of_below (S := fun i => (Value.slice ua cs.length pa).ownBlock = some i) (w := w.alloc (.cells #[.int .i64 tk, .string ts] 33)) ((Below.refl _ _).alloc (Nat.le_refl _) (.cells #[.int .i64 (-1)] 3))).grown hg1 (fun _ e => .inl e); rw [← iL_snoc, show cs.length + 1 = (cs ++ [(-1 : Int)]).length by simp] at ho1; have WA := hid (HR0.out.setA hc1 ho1 (hk1.imp_right (fun e => ⟨_, by simp, e⟩))); have g1 := (hc1.block _ HR0.out.ib_lt (own_unlike_box HR0.out.oa HR0.out.ins (by decide))).trans HR0.out.ins; dsimp only at g1; have c1 : w1.cell? ⟨ib, 1, none⟩ = some (.slice ua cs.length pa) := (by simp [World.cell?, g1]); have y1 : w1.frozen? ⟨ib, 1, none⟩ = false := (by simp [World.frozen?, g1]); obtain ⟨b1, q1, rfl⟩ := own_form ho1; clear ho1 hg1 hk1 hc1 g1)
  obtain ⟨W, hW⟩ : ∃ W, W = w1.setCell ⟨ib, 1, none⟩ (.slice b1 (cs.length + 1) q1) := ⟨_, rfl⟩
  simp only [List.length_append, List.length_singleton] at WA
  rw [← hW] at WA ⊢
  clear hW c1 y1
  have bxA := BX.new w #[.int .i64 tk, .string ts] 33
  have HbW := hid (bxA.chg WA.out.chg HF.out)
  have HoffW := hid (WA.out.off (b := w.heap.size) (by simp) HF.out)
  have HT := hid (fun X (k : Below W.heap.size W X) => addT_any (WA.out.rep.below k) 1 (by show tc.length + 1 ≤ _; omega) (by show te.length ≤ _; omega))
  unfold AddT Sub at HT
  have cfT := fun (u v : Value) (w : World) => (show (callFunc 57 #[u, v]).run Try.prog w = .ok (.enter 57 #[u, v]) w by kernel_rfl)
  clear bxA k0 k1 k2 k3 k4 k5 k6
  have x0 := HbW.out.cell 0
  have x1 := HbW.out.cell 1
  simp at x0 x1
  go_region_law (refine Kit.step_call2 rfl 57 (.tmp 22) (.const (.int .i64 1)) 74 3 rfl _ _ rfl rfl (cfT _ _ _) _ (HT.out _ (by repeat' first | with_reducible exact Below.refl _ _ | with_reducible assumption | with_reducible refine belows_drewN ?_ _ | with_reducible refine Below.drew ?_ | with_reducible refine Below.setCell ?_ ?_ _ | with_reducible refine Below.alloc ?_ ?_ _ | omega | (simp; done) | (simp; omega))) ?_; rintro e w2 ⟨H2, v, rfl, hW2, a2, c2, rfl, hcc, hsub⟩; refine ⟨_, rfl, ?_⟩; have hb2 : BX w2 w.heap.size #[.int .i64 tk, .string ts] 33 := ((HbW.out.below (by repeat' first | with_reducible exact Below.refl _ _ | with_reducible assumption | with_reducible refine belows_drewN ?_ _ | with_reducible refine Below.drew ?_ | with_reducible refine Below.setCell ?_ ?_ _ | with_reducible refine Below.alloc ?_ ?_ _ | omega | (simp; done) | (simp; omega))).chg hW2.chg HoffW.out); obtain ⟨g, hg, rfl⟩ := hsub (by decide); obtain ⟨hgc, hgf⟩ := own_at hW2.rep.ob hg; obtain ⟨z0, z1⟩ := tL_at (l := tc ++ List.replicate 1 Hp.T0) (j := tc.length) (t := Hp.T0) (by simp); have d0 := hgc _ _ z0; have d1 := hgc _ _ z1; have f0 := hgf (tc.length * 2); have f1 := hgf (tc.length * 2 + 1); have e0 := hb2.cell 0; have e1 := hb2.cell 1; simp at e0 e1; have HW2 := hid (show Went W w2 base _ H2 _ from Went.start (by repeat' first | with_reducible exact Below.refl _ _ | with_reducible assumption | with_reducible refine belows_drewN ?_ _ | with_reducible refine Below.drew ?_ | with_reducible refine Below.setCell ?_ ?_ _ | with_reducible refine Below.alloc ?_ ?_ _ | omega | (simp; done) | (simp; omega)) hW2); have HP := hid (hW2.rep.putT hg (j := tc.length) (by show tc.length < (tc ++ List.replicate 1 Hp.T0).length; simp) ⟨tk, ts⟩); have HB2 := hid hb2; clear hW2 hsub hg hgc hgf z0 z1 hb2)
  all_goals
    obtain ⟨Y, hY⟩ : ∃ Y, Y = (w2.setCell ⟨g, tc.length * 2, none⟩ (.int .i64 tk)).setCell ⟨g, tc.length * 2 + 1, none⟩ (.string ts) := ⟨_, rfl⟩
    rw [← hY] at HP ⊢
    have hset : (tc ++ List.replicate 1 Hp.T0).set tc.length ⟨tk, ts⟩ = tc ++ [⟨tk, ts⟩] := by simp
    dsimp only at HP
    rw [hset] at HP
    have WG := hid (WA.out.trans (HW2.out.trans HP.out))
    have HbY := hid (HB2.out.chg HP.out.chg (HW2.out.off HbW.out.sz HoffW.out))
    have hlY := hid (fun k (e : H2.foot k) => (WG.out.rep.low k e).2)
    have HV := hid (fun X (k : Below Y.heap.size Y X) => by have a := addV_any (WG.out.rep.below k) n (by show vs.length + n ≤ _; omega) (by show vn.length ≤ _; omega); rw [WG.out.ib] at a; exact a)
    unfold AddV Sub at HV
    clear hY hset d0 d1 f0 f1 e0 e1 x0 x1 HW2 HP HB2 HT cfT
    have x0 := HbY.out.cell 0
    have x1 := HbY.out.cell 1
    simp at x0 x1
    go_wp2_with fail
    refine (HZ.out _).mono ?_
    rintro e w3 ⟨rfl, hb3⟩
    have bz := BX.new w3 #[.int .i64 z.k, .int .i64 z.n] 35
    go_wp2_with fail
    have hz3 := hb3.size
    refine (HV.out _ (by repeat' first | with_reducible exact Below.refl _ _ | with_reducible assumption | with_reducible refine belows_drewN ?_ _ | with_reducible refine Below.drew ?_ | with_reducible refine Below.setCell ?_ ?_ _ | with_reducible refine Below.alloc ?_ ?_ _ | omega | (simp; done) | (simp; omega))).mono ?_
    rintro e w4 ⟨H4, v, rfl, hW4, a4, c4, rfl, hcc4, hsub4⟩
    have bz4 := hid (bz.chg hW4.chg (fun e => by have := hlY.out _ e; omega))
    have HoffZ := hid (hW4.off (b := w3.heap.size) (by simp) (fun e => by have := hlY.out _ e; omega))
    have HW4 := hid (WG.out.trans (Went.start (by exact (by repeat' first | with_reducible exact Below.refl _ _ | with_reducible assumption | with_reducible refine belows_drewN ?_ _ | with_reducible refine Below.drew ?_ | with_reducible refine Below.setCell ?_ ?_ _ | with_reducible refine Below.alloc ?_ ?_ _ | omega | (simp; done) | (simp; omega))) hW4))
    have HS4 := hid hsub4
    clear hW4 hsub4 bz hb3 x0 x1 HV WG HbY HOa HR0 HR
    go_wp2
    go_loopw [38] (fun i wr => ∃ k : Nat, k ≤ n ∧ i = .int .i64 (k : Int) ∧ Hid (Went (w.alloc (.cells #[.int .i64 tk, .string ts] 33)) wr base ⟨hb, ib, .slice ua cs.length pa, .slice ub tc.length pb, .slice uc te.length pc, .slice ud vs.length pd, .slice ue vn.length pe⟩ H4 ⟨lim, cs ++ [-1], tc ++ [⟨tk, ts⟩], te ++ [tc.length + 1], vs ++ ((List.replicate n z).take k ++ List.replicate (n - k) Hp.V0), vn ++ [vs.length + n]⟩) ∧ Hid (BX wr w3.heap.size #[.int .i64 z.k, .int .i64 z.n] 35)) (fun i _ => n - (intOf i).toNat)
    case atStart => exact ⟨0, by omega, rfl, by show Went _ _ _ _ _ _; simpa using HW4.out, bz4⟩
    case round =>
      obtain ⟨k, hk, rfl, HWk, Hbz⟩ := hrel
      by_cases hlt : k < n
      · obtain ⟨g4, hg4, rfl⟩ := HS4.out (by omega)
        have hzk : (List.replicate n z)[k]? = some z := by rw [List.getElem?_replicate, if_pos hlt]
        have hjl : vs.length + k < (vs ++ ((List.replicate n z).take k ++ List.replicate (n - k) Hp.V0)).length := by simp; omega
        obtain ⟨u, hu⟩ : ∃ u, (vs ++ ((List.replicate n z).take k ++ List.replicate (n - k) Hp.V0))[vs.length + k]? = some u := ⟨_, List.getElem?_eq_getElem hjl⟩
        obtain ⟨hgc, hgf⟩ := own_at HWk.out.rep.od hg4
        obtain ⟨z0, z1⟩ := vL_at hu
        have d0 := hgc _ _ z0
        have d1 := hgc _ _ z1
        have f0 := hgf (vs.length * 2 + k * 2)
        have f1 := hgf (vs.length * 2 + k * 2 + 1)
        have hput := HWk.out.rep.putV hg4 (j := vs.length + k) hjl z
        have HPk := HWk.out.trans hput
        have Hbz2 := Hbz.out.chg hput.chg HoffZ.out
        dsimp only at HPk
        rw [set_next (by simp) hzk] at HPk
        have e0 := Hbz.out.cell 0
        have e1 := Hbz.out.cell 1
        simp at e0 e1
        rw [Nat.add_mul] at d0 d1 HPk Hbz2
        have HPk2 := hid HPk
        have Hbz3 := hid Hbz2
        clear hgc hgf z0 z1 hu hzk HPk Hbz2 hput
        go_wp2
        go_roundw
        case rel => exact ⟨k + 1, by omega, by go_num, HPk2, Hbz3⟩
        case measure => simp [intOf] <;> omega
      · obtain rfl : k = n := by omega
        have HM := hid (many_any HWk.out.rep)
        rw [HWk.out.ib] at HM
        go_wp2_with fail
        refine HM.out.mono ?_
        rintro e w5 ⟨rfl, rfl⟩
        go_wp2
        go_ret
        have hfin := Went.start (a := w) ((Below.refl _ _).alloc (Nat.le_refl _) _) HWk.out
        rw [show (List.replicate k z).take k ++ List.replicate (k - k) Hp.V0 = List.replicate k z by simp] at hfin
        exact ⟨_, by simp, hfin⟩
end Go.Proofs.Ythembnakeikmeaa
namespace Go.Proofs.Ythembnakeikmeaa
open Go Go.RowKit

theorem run_copy_two {P : Program} (w : World) (dT sT ty elem : TypeId) (hu : P.underlying dT = some (.slice elem)) (hs : (P.info? elem).map (·.size) = some 2) (k : Nat) (da sa : Option Addr) (dc sc : Nat) (cs : List Value) (hl : cs.length = k * 2)
    (hsrc : 0 < k → ∃ a, sa = some a ∧ ∀ j u, cs[j]? = some u → w.cell? (a.add j) = some u) (h1 : ∀ u ∈ cs, u.oneCell' = true) (hd0 : 0 < k → ∃ g o cur t, da = some ⟨g, o, none⟩ ∧ w.heap[g]? = some (.cells cur t (0, 0)) ∧ o + k * 2 ≤ cur.size) :
    ∃ w', (Builtin.copy_ #[dT, sT] ty #[.slice da k dc, .slice sa k sc]).run P w = .ok (goInt k) w' ∧ (k = 0 → w' = w) ∧
      ∀ g o cur t, 0 < k → da = some ⟨g, o, none⟩ → w.heap[g]? = some (.cells cur t (0, 0)) → w' = w.setRow g (cur.toList.take o ++ cs ++ cur.toList.drop (o + cs.length)).toArray := by
  cases hq : P.info? elem with
  | none => simp [hq] at hs
  | some i =>
    have hi : i.size = 2 := by simpa [hq] using hs
    by_cases hk : k = 0
    · subst hk
      have hc : cs = [] := List.eq_nil_of_length_eq_zero (by simpa using hl)
      subst hc
      refine ⟨w, ?_, fun _ => rfl, fun _ _ _ _ h => absurd h (by omega)⟩
      have hld : ∀ (x : Addr), (loadCells x 0).run P w = .ok #[] w := fun x => by simpa using run_loadCells_list (P := P) w x [] (by simp)
      cases da <;> cases sa <;> simp [Builtin.copy_, run_underlying hu, Builtin.lenOf, Builtin.firstCells, sizeOf, typeInfo, hq, storeCells, hld]
    · obtain ⟨a, rfl, ha⟩ := hsrc (by omega)
      obtain ⟨g, o, cur, t, rfl, hg, hfit⟩ := hd0 (by omega)
      have hld := run_loadCells_list (P := P) w a cs ha
      have hst := run_storeCells_at P g o t cs 0 cur w hg (by simpa [hl] using hfit) h1
      refine ⟨w.setRow g (cur.toList.take o ++ cs ++ cur.toList.drop (o + cs.length)).toArray, ?_, fun h => absurd h hk, fun g' o' cur' t' _ e hg' => ?_⟩
      rotate_left
      · obtain ⟨rfl, rfl, -⟩ := Addr.mk.inj (Option.some.inj e)
        rw [hg] at hg'
        simp only [Option.some.injEq, Obj.cells.injEq] at hg'
        obtain ⟨rfl, -⟩ := hg'
        rfl
      · simp only [Nat.add_zero] at hst
        rw [hl] at hld
        simp [Builtin.copy_, run_underlying hu, Builtin.lenOf, Builtin.firstCells, sizeOf, typeInfo, hq, hi, hld, hst]
theorem wpList_copy_two {P : Program} {w : World} {ops : Array Oper} {rest : List Oper} {o : Oper} {a : Act} {Q : Exit → Act → World → Prop} (hgd : o.guard = none) (d s : Operand) (dT sT : TypeId)
    (ho : o.op = .call { callee := .builtin .copy, args := #[d, s], argTypes := #[dT, sT] }) (elem : TypeId) (hu : P.underlying dT = some (.slice elem)) (hsz : (P.info? elem).map (·.size) = some 2) (k : Nat) (da sa : Option Addr) (dc sc : Nat) (hd : a.eval d = .slice da k dc) (hs : a.eval s = .slice sa k sc) (cs : List Value) (hl : cs.length = k * 2)
    (hsrc : 0 < k → ∃ a, sa = some a ∧ ∀ j u, cs[j]? = some u → w.cell? (a.add j) = some u) (h1 : ∀ u ∈ cs, u.oneCell' = true) (hd0 : 0 < k → ∃ g o cur t, da = some ⟨g, o, none⟩ ∧ w.heap[g]? = some (.cells cur t (0, 0)) ∧ o + k * 2 ≤ cur.size)
    (h : ∀ w', (k = 0 → w' = w) → (∀ g o cur t, 0 < k → da = some ⟨g, o, none⟩ → w.heap[g]? = some (.cells cur t (0, 0)) → w' = w.setRow g (cur.toList.take o ++ cs ++ cur.toList.drop (o + cs.length)).toArray) → wpList P ops Q rest (a.put o.dst (goInt k)) w') : wpList P ops Q (o :: rest) a w := by
  refine wpList_plain hgd fun K hK => ?_
  obtain ⟨w', hrun, h2, h3⟩ := run_copy_two (P := P) w dT sT o.type elem hu hsz k da sa dc sc cs hl hsrc h1 hd0
  unfold Oper.wp
  simp [execOp, ho, resolve, invoke, builtin, hd, hs, hrun, Result.andThen]
  exact hK _ _ (h w' h2 h3)
/-- A list that reads, in a block that is none of S. -/
def IsO (S : Nat → Prop) (size : Nat) (w : World) (v : Value) (n : Nat) (xs : List Value) : Prop :=
  xs.length = n * size ∧ n ≤ 140737488355328 ∧ ((n = 0 ∧ ∃ a cap, v = .slice a 0 cap) ∨ (∃ b o cap, v = .slice (some ⟨b, o, none⟩) n cap ∧ n ≤ cap ∧ b < w.heap.size ∧ ¬ S b ∧ ∀ i u, xs[i]? = some u → w.cell? ⟨b, o + i, none⟩ = some u))
theorem IsO.chg {S T : Nat → Prop} {size : Nat} {w w' : World} {v : Value} {n : Nat} {xs : List Value} (h : IsO S size w v n xs) (hc : Chg S w w') (hT : ∀ k, k < w.heap.size → T k → S k) : IsO T size w' v n xs := by
  refine ⟨h.1, h.2.1, ?_⟩
  rcases h.2.2 with h | ⟨b, o, cap, hv, hl, hlt, hs, hx⟩
  · exact .inl h
  · exact .inr ⟨b, o, cap, hv, hl, Nat.lt_of_lt_of_le hlt hc.size, fun e => hs (hT b hlt e), fun i u hi => (hc.cell (p := ⟨b, o + i, none⟩) hlt hs).trans (hx i u hi)⟩
theorem IsO.below {S : Nat → Prop} {size : Nat} {w w' : World} {v : Value} {n : Nat} {xs : List Value} (h : IsO S size w v n xs) (hb : Below w.heap.size w w') : IsO S size w' v n xs := h.chg (Chg.of_below hb) (fun _ _ e => e)
theorem IsO.went {size : Nat} {w w' : World} {v : Value} {n : Nat} {xs : List Value} {base : Nat} {H H' : HV} {s : Hp.St} (h : IsO H.foot size w v n xs) (hw : Went w w' base H H' s) : IsO H'.foot size w' v n xs :=
  h.chg hw.chg (fun k hk e => by rcases hw.foot k e with h1 | h1; exact h1; omega)
theorem IsO.len {S : Nat → Prop} {size : Nat} {w : World} {v : Value} {n : Nat} {xs : List Value} (h : IsO S size w v n xs) : ∃ a cap, v = .slice a n cap := by
  rcases h.2.2 with ⟨rfl, a, cap, rfl⟩ | ⟨b, o, cap, rfl, -⟩
  · exact ⟨a, cap, rfl⟩
  · exact ⟨_, cap, rfl⟩
theorem IsO.some {S : Nat → Prop} {size : Nat} {w : World} {v : Value} {n : Nat} {xs : List Value} (h : IsO S size w v n xs) (hn : 0 < n) :
    ∃ b o cap, v = .slice (Option.some ⟨b, o, none⟩) n cap ∧ n ≤ cap ∧ b < w.heap.size ∧ ¬ S b ∧ ∀ i u, xs[i]? = Option.some u → w.cell? ⟨b, o + i, none⟩ = Option.some u := by
  rcases h.2.2 with ⟨rfl, _⟩ | h
  · omega
  · exact h
theorem isO_of {size : Nat} {w : World} {v : Value} {n : Nat} {xs : List Value} {S : Nat → Prop} (h : Kit.IsS size w v n xs) (hs : ∀ b, b < w.heap.size → ¬ S b) : IsO S size w v n xs := by
  refine ⟨h.1, h.2.1, ?_⟩
  rcases h.2.2 with h | ⟨b, o, cap, hv, hl, hlt, hc⟩
  · exact .inl h
  · exact .inr ⟨b, o, cap, hv, hl, hlt, hs b hlt, hc⟩
theorem onesTL (l : List Hp.Ty) : ∀ u ∈ l.flatMap tL, u.oneCell' = true := by
  intro u hu
  simp only [List.mem_flatMap, tL, List.mem_cons, List.not_mem_nil, or_false] at hu
  obtain ⟨t, -, rfl | rfl⟩ := hu <;> rfl
/-- A row of types is filled. -/
theorem Rep.fillT {w : World} {base : Nat} {H : HV} {s : Hp.St} {l ts : List Hp.Ty} (h : Rep w base H s) (hl : s.tc = l ++ List.replicate ts.length Hp.T0) {g : Nat} (hg : H.b.ownBlock = some g) {cur : Array Value} {t : TypeId} (hc : w.heap[g]? = some (.cells cur t (0, 0))) :
    Went w (w.setRow g (cur.toList.take (l.length * 2) ++ ts.flatMap tL ++ cur.toList.drop (l.length * 2 + (ts.flatMap tL).length)).toArray) base H H { s with tc := l ++ ts } := by
  have hS : Chg (fun k => k = g) w (w.setRow g (cur.toList.take (l.length * 2) ++ ts.flatMap tL ++ cur.toList.drop (l.length * 2 + (ts.flatMap tL).length)).toArray) := ⟨rfl, rfl, rfl, by simp [World.setRow], fun k _ hk => setRow_other w g k _ hk⟩
  refine ⟨⟨(hS.block _ h.hb_lt (fun e => own_unlike_box h.ob h.box (by decide) (e ▸ hg))).trans h.box, (hS.block _ h.ib_lt (fun e => own_unlike_box h.ob h.ins (by decide) (e ▸ hg))).trans h.ins,
    owns_chg h.oa hS (fun k e e2 => own_unlike h.oa h.ob (by decide) k e (e2 ▸ hg)), ?_, owns_chg h.oc hS (fun k e e2 => own_unlike h.oc h.ob (by decide) k e (e2 ▸ hg)), owns_chg h.od hS (fun k e e2 => own_unlike h.od h.ob (by decide) k e (e2 ▸ hg)),
    owns_chg h.oe hS (fun k e e2 => own_unlike h.oe h.ob (by decide) k e (e2 ▸ hg)), h.ac, h.ae, h.ce, h.lh, h.li⟩, hS.mono (fun i _ e => .inr (.inr (.inr (.inl (e ▸ hg))))), rfl, rfl, fun k e => .inl e⟩
  obtain ⟨h1, h2⟩ := h.ob
  have hlen : s.tc.length = (l ++ ts).length := by rw [hl]; simp
  show World.ownsRow _ _ _ _ H.b (l ++ ts).length ((l ++ ts).flatMap tL)
  refine ⟨Kit.flat_len tL_len _, ?_⟩
  rcases h2 with ⟨e, -⟩ | ⟨g', cap, cur', hv, hbg, hh, c1, c2, c3, c4⟩
  · rw [e] at hg; simp [Value.ownBlock] at hg
  · rw [hv] at hg
    simp only [Value.ownBlock, Option.some.injEq] at hg
    subst hg
    rw [hh] at hc
    simp only [Option.some.injEq, Obj.cells.injEq] at hc
    obtain ⟨rfl, rfl, -⟩ := hc
    have hfl := Kit.flat_len tL_len ts
    have hll := Kit.flat_len tL_len l
    have hcz : (l.length + ts.length) * 2 ≤ cur'.size := by rw [c3]; exact Nat.mul_le_mul_right _ (by rw [List.length_append] at hlen; omega)
    rw [hlen] at hv c1
    refine .inr ⟨g', cap, _, hv, hbg, setRow_heap w g' cur' _ _ _ hh, c1, c2, ?_, ?_⟩
    · simp only [List.size_toArray, List.length_append, List.length_take, List.length_drop, Array.length_toList]
      omega
    · have hpre : cur'.toList.take (l.length * 2) = l.flatMap tL := by
        have := congrArg (List.take (l.length * 2)) c4
        rw [List.take_take, hl, List.flatMap_append, List.take_left' hll] at this
        rw [show min (l.length * 2) ((l ++ List.replicate ts.length Hp.T0).length * 2) = l.length * 2 by simp] at this
        exact this
      rw [hpre, List.flatMap_append, List.length_append, Nat.add_mul, ← hll, ← hfl, ← List.length_append]
      exact List.take_left
end Go.Proofs.Ythembnakeikmeaa
namespace Go.Proofs.Ythembnakeikmeaa
open Go Go.RowKit

theorem zeros_at {ts : List Hp.Ty} {zs : List Hp.Vl} (h : ts.map zeroOf = zs.map some) {k : Nat} {t : Hp.Ty} (hk : ts[k]? = some t) : ∃ z, zeroOf t = some z ∧ zs[k]? = some z := by
  have h1 := congrArg (·[k]?) h
  simp only [List.getElem?_map, hk, Option.map_some] at h1
  cases hz : zs[k]? with
  | none => rw [hz] at h1; simp at h1
  | some z => rw [hz] at h1; exact ⟨z, by simpa using h1, rfl⟩
theorem fill_any {w : World} {base : Nat} {H : HV} {s : Hp.St} {l ts : List Hp.Ty} {a2 : Option Addr} (h : Rep w base H s) (hl : s.tc = l ++ List.replicate ts.length Hp.T0) (hsub : 0 < ts.length → ∃ g, H.b.ownBlock = some g ∧ a2 = some ⟨g, l.length * 2, none⟩) :
    (0 < ts.length → ∃ g o cur t, a2 = some ⟨g, o, none⟩ ∧ w.heap[g]? = some (.cells cur t (0, 0)) ∧ o + ts.length * 2 ≤ cur.size) ∧
    ∀ w', (ts.length = 0 → w' = w) → (∀ g o cur t, 0 < ts.length → a2 = some ⟨g, o, none⟩ → w.heap[g]? = some (.cells cur t (0, 0)) → w' = w.setRow g (cur.toList.take o ++ ts.flatMap tL ++ cur.toList.drop (o + (ts.flatMap tL).length)).toArray) → Went w w' base H H { s with tc := l ++ ts } := by
  have key : 0 < ts.length → ∃ g cur, H.b.ownBlock = some g ∧ a2 = some ⟨g, l.length * 2, none⟩ ∧ w.heap[g]? = some (.cells cur 33 (0, 0)) ∧ l.length * 2 + ts.length * 2 ≤ cur.size := fun hp => by
    obtain ⟨g, hg, ha⟩ := hsub hp
    rcases h.ob.2 with ⟨e, -⟩ | ⟨g', cap, cur, hv, hbg, hh, c1, c2, c3, c4⟩
    · rw [e] at hg; simp [Value.ownBlock] at hg
    · have hg2 := hg
      rw [hv] at hg2
      simp only [Value.ownBlock, Option.some.injEq] at hg2
      subst hg2
      refine ⟨g', cur, hg, ha, hh, ?_⟩
      rw [hl, List.length_append, List.length_replicate] at c1
      rw [c3]
      omega
  refine ⟨fun hp => ?_, fun w' h0 h1 => ?_⟩
  · obtain ⟨g, cur, -, ha, hh, hz⟩ := key hp
    exact ⟨g, _, cur, _, ha, hh, hz⟩
  · by_cases hp : ts.length = 0
    · obtain rfl := h0 hp
      have e : ts = [] := List.eq_nil_of_length_eq_zero hp
      subst e
      have h2 : ({ s with tc := l ++ [] } : Hp.St) = s := by
        obtain ⟨lim, cs, tc, te, vs, vn⟩ := s
        simp only [List.length_nil, List.replicate_zero, List.append_nil] at hl
        simp [hl]
      rw [h2]
      exact Went.refl h
    · obtain ⟨g, cur, hg, ha, hh, -⟩ := key (by omega)
      rw [h1 g _ cur _ (by omega) ha hh]
      exact h.fillT hl hg hh
theorem src_of {S : Nat → Prop} {w : World} {a : Option Addr} {n cap : Nat} {xs : List Value} (h : IsO S 2 w (.slice a n cap) n xs) : 0 < n → ∃ ad, a = some ad ∧ ∀ j u, xs[j]? = some u → w.cell? (ad.add j) = some u := fun hp => by
  obtain ⟨b, o, c, e, -, -, -, hx⟩ := h.some hp
  obtain ⟨rfl, -, -⟩ := Value.slice.inj e
  refine ⟨_, rfl, fun j u hj => ?_⟩
  have hadd : (⟨b, o, none⟩ : Addr).add j = ⟨b, o + j, none⟩ := by unfold Addr.add; split <;> simp_all
  rw [hadd]
  exact hx j u hj
set_option maxRecDepth 100000 in
set_option maxHeartbeats 2000000 in
theorem addObject_any {w : World} {base : Nat} {H : HV} {s : Hp.St} (h : Rep w base H s) (cl : Int) (ts : List Hp.Ty) (zs : List Hp.Vl) (v : Value) (hz : ts.map zeroOf = zs.map some) (hv : IsO H.foot 2 w v ts.length (ts.flatMap tL)) (hn : s.vc.length + ts.length ≤ 1073741000) (hm : s.ve.length ≤ 1073741000) (hc : s.cs.length ≤ 1073741000) (ht : s.tc.length + ts.length ≤ 1073741000) (hu : s.te.length ≤ 1073741000) :
    Calls Try.prog 44 #[.pointer (some ⟨H.ib, 0, none⟩), .int .i64 cl, v] w
      (AddPost base H { s with cs := s.cs ++ [cl], tc := s.tc ++ ts, te := s.te ++ [s.tc.length + ts.length], vc := s.vc ++ zs, ve := s.ve ++ [s.vc.length + ts.length] } ((s.cs.length : Int) + 1) w) := by
  obtain ⟨i9, hi9, hz09, hz19, hz29⟩ := info_parts infoI
  have HZ := hid (fun t W => zero_any t W)
  have hzl : zs.length = ts.length := by have := congrArg List.length hz; simpa using this.symm
  unfold AddPost
  have HOa := hid (fun X (k : Below w.heap.size w X) => Kit.owns_below h.oa k (Nat.le_refl _))
  have HVV := hid hv
  have HZZ := hid hz
  have HZL := hid hzl
  have hbl := h.base_lt
  obtain ⟨va0, vcap, rfl⟩ := hv.len
  clear hv hz hzl
  obtain ⟨hb, ib, va, vb, vc, vd, ve⟩ := H; obtain ⟨lim, cs, tc, te, vs, vn⟩ := s; have e1 := own_form h.oa; have e2 := own_form h.ob; have e3 := own_form h.oc; have e4 := own_form h.od; have e5 := own_form h.oe; dsimp only at *; obtain ⟨ua, pa, rfl⟩ := e1; obtain ⟨ub, pb, rfl⟩ := e2; obtain ⟨uc, pc, rfl⟩ := e3; obtain ⟨ud, pd, rfl⟩ := e4; obtain ⟨ue, pe, rfl⟩ := e5; have hcl := h.cells; have hgen := h.hb_lt; have hgen2 := h.ib_lt; have hgen3 := h.li; dsimp only at hcl hgen hgen2 hgen3; obtain ⟨k0, k1, k2, k3, k4, k5, k6⟩ := hcl; have HR := hid h; clear h
  go_enter Try.func44, Try.ntmps44
  go_wp2_with (at_builtin; refine wpList_append_own_at _ rfl (.tmp 14) (.tmp 16) 72 rfl base 3 i9 _ 1 8 Try.underlying72 hi9 hz09 hz19 hz29 rfl (by decide) (.slice ua cs.length pa) cs.length (iL cs) rfl (HOa.out _ (by repeat' first | with_reducible exact Below.refl _ _ | with_reducible assumption | with_reducible refine belows_drewN ?_ _ | with_reducible refine Below.drew ?_ | with_reducible refine Below.setCell ?_ ?_ _ | with_reducible refine Below.alloc ?_ ?_ _ | omega | (simp; done) | (simp; omega))) ⟨w.heap.size, 0, none⟩ 1 1 [.int .i64 cl] rfl rfl (Kit.news_one w (.int .i64 cl) 3) (Kit.ones_one rfl) (by unfold maxLen; omega) (by omega) (by simp; omega) ?_; intro v1 w1 ho1 hg1 _ hk1; have hc1 := (Chg.of_below (S := fun i => (Value.slice ua cs.length pa).ownBlock = some i) (w := w) ((Below.refl _ _).alloc (Nat.le_refl _) (.cells #[.int .i64 cl] 3))).grown hg1 (fun _ e => .inl e); rw [← iL_snoc, show cs.length + 1 = (cs ++ [cl]).length by simp] at ho1; have WA := hid (HR.out.setA hc1 ho1 (hk1.imp_right (fun e => ⟨_, by simp, e⟩))); have g1 := (hc1.block _ HR.out.ib_lt (own_unlike_box HR.out.oa HR.out.ins (by decide))).trans HR.out.ins; dsimp only at g1; have c1 : w1.cell? ⟨ib, 1, none⟩ = some (.slice ua cs.length pa) := (by simp [World.cell?, g1]); have y1 : w1.frozen? ⟨ib, 1, none⟩ = false := (by simp [World.frozen?, g1]); obtain ⟨b1, q1, rfl⟩ := own_form ho1; clear ho1 hg1 hk1 hc1 g1)
  obtain ⟨W, hW⟩ : ∃ W, W = w1.setCell ⟨ib, 1, none⟩ (.slice b1 (cs.length + 1) q1) := ⟨_, rfl⟩
  simp only [List.length_append, List.length_singleton] at WA
  rw [← hW] at WA ⊢
  clear hW c1 y1 k0 k1 k2 k3 k4 k5 k6
  refine (addT_any WA.out.rep ts.length (by show tc.length + ts.length ≤ _; omega) (by show te.length ≤ _; omega)).mono ?_
  rintro e w2 ⟨H2, v2, rfl, hW2, a2, c2, rfl, hcc, hsub⟩
  have hv2 := HVV.out.went (WA.out.trans hW2)
  obtain ⟨hdst, hfill⟩ := fill_any (l := tc) (ts := ts) (a2 := a2) hW2.rep rfl hsub
  have HD := hid hdst
  have HFl := hid hfill
  have HS := hid (src_of hv2)
  have WB := hid (WA.out.trans hW2)
  clear hdst hfill hsub hv2 hW2 WA
  go_wp2_with (with_reducible refine wpList_copy_two rfl (.tmp 25) (.tmp 26) 31 31 rfl 33 Try.underlying31 (by kernel_rfl) ts.length a2 va0 c2 vcap rfl rfl (ts.flatMap tL) (Kit.flat_len tL_len ts) HS.out (onesTL ts) HD.out ?_; intro w3 hq1 hq2; have WC := hid (WB.out.trans (HFl.out w3 hq1 hq2)); clear hq1 hq2)
  have a := addV_any WC.out.rep ts.length (by show vs.length + ts.length ≤ _; omega) (by show vn.length ≤ _; omega)
  rw [WC.out.ib] at a
  refine a.mono ?_
  rintro e w4 ⟨H4, v4, rfl, hW4, a4, c4, rfl, hcc4, hsub4⟩
  have HW4 := hid (WC.out.trans hW4)
  have HS4 := hid hsub4
  clear hW4 hsub4 WC WB HD HFl HS HOa HR a
  go_wp2
  go_loopw [36] (fun i wr => ∃ k : Nat, k ≤ ts.length ∧ i = .int .i64 (k : Int) ∧ Hid (Went w wr base ⟨hb, ib, .slice ua cs.length pa, .slice ub tc.length pb, .slice uc te.length pc, .slice ud vs.length pd, .slice ue vn.length pe⟩ H4 ⟨lim, cs ++ [cl], tc ++ ts, te ++ [tc.length + ts.length], vs ++ (zs.take k ++ List.replicate (ts.length - k) Hp.V0), vn ++ [vs.length + ts.length]⟩)) (fun i _ => ts.length - (intOf i).toNat)
  case atStart => exact ⟨0, by omega, rfl, by show Went _ _ _ _ _ _; simpa using HW4.out⟩
  case round =>
    obtain ⟨k, hk, rfl, HWk⟩ := hrel
    by_cases hlt : k < ts.length
    · obtain ⟨g4, hg4, rfl⟩ := HS4.out (by omega)
      obtain ⟨t, htk⟩ : ∃ t, ts[k]? = some t := ⟨_, List.getElem?_eq_getElem hlt⟩
      obtain ⟨z, hzt, hzk⟩ := zeros_at HZZ.out htk
      obtain ⟨b, o, cap, hsl, -, hbl2, -, hxx⟩ := (HVV.out.went HWk.out).some (by omega)
      obtain ⟨rfl, -, rfl⟩ := Value.slice.inj hsl
      obtain ⟨x0, x1⟩ := tL_at htk
      have y0 := hxx _ _ x0
      have y1 := hxx _ _ x1
      rw [← Nat.add_assoc] at y1
      have HZk0 := HZ.out t
      rw [hzt] at HZk0
      unfold tA zV vA at HZk0
      dsimp only [Option.getD_some, Option.isSome_some] at HZk0
      have HZk := hid HZk0
      have Hzk := hid hzk
      obtain ⟨tk, ts2⟩ := t
      dsimp only at y0 y1 HZk
      clear HZk0 hzk hzt hxx x0 x1 hsl htk
      go_wp2_with fail
      refine (HZk.out _).mono ?_
      rintro e w5 ⟨rfl, hb5⟩
      have hB5 : Below wr.heap.size wr w5 := belows (B := wr.heap.size) (a := wr) ((Below.refl _ wr).alloc (Nat.le_refl _) _) hb5 (by simp)
      have hW5 := HWk.out.below hB5
      have hjl : vs.length + k < (vs ++ (zs.take k ++ List.replicate (ts.length - k) Hp.V0)).length := by have := HZL.out; simp; omega
      obtain ⟨u, hu⟩ : ∃ u, (vs ++ (zs.take k ++ List.replicate (ts.length - k) Hp.V0))[vs.length + k]? = some u := ⟨_, List.getElem?_eq_getElem hjl⟩
      obtain ⟨hgc, hgf⟩ := own_at hW5.rep.od hg4
      obtain ⟨z0, z1⟩ := vL_at hu
      have d0 := hgc _ _ z0
      have d1 := hgc _ _ z1
      have f0 := hgf (vs.length * 2 + k * 2)
      have f1 := hgf (vs.length * 2 + k * 2 + 1)
      have HPk := hW5.trans (hW5.rep.putV hg4 (j := vs.length + k) hjl z)
      dsimp only at HPk
      rw [set_next HZL.out Hzk.out] at HPk
      rw [Nat.add_mul] at d0 d1 HPk
      have HPk2 := hid HPk
      clear hgc hgf z0 z1 hu HPk hW5 hB5 hb5 hjl
      go_wp2
      go_roundw
      case rel => exact ⟨k + 1, by omega, by go_num, HPk2⟩
      case measure => simp [intOf] <;> omega
    · obtain rfl : k = ts.length := by omega
      have HM := hid (many_any HWk.out.rep)
      rw [HWk.out.ib] at HM
      go_wp2_with fail
      refine HM.out.mono ?_
      rintro e w5 ⟨rfl, rfl⟩
      go_wp2
      go_ret
      have hfin := HWk.out
      rw [show zs.take ts.length ++ List.replicate (ts.length - ts.length) Hp.V0 = zs by rw [← HZL.out]; simp] at hfin
      exact ⟨_, by simp, hfin⟩
end Go.Proofs.Ythembnakeikmeaa
namespace Go.Proofs.Ythembnakeikmeaa
open Go Go.RowKit

namespace Hp
structure Th where
  cl : Int
  ts : List Ty
  vs : List Vl
structure Hs where
  lim : Nat
  l : List Th
def ends {α : Type} (rs : List (List α)) : List Nat := (List.range rs.length).map fun i => (rs.take (i + 1)).flatten.length
theorem ends_len {α : Type} (rs : List (List α)) : (ends rs).length = rs.length := by simp [ends]
theorem ends_at {α : Type} {rs : List (List α)} {k : Nat} (h : k < rs.length) : (ends rs)[k]? = some (rs.take (k + 1)).flatten.length := by
  simp [ends, h]
theorem ends_snoc {α : Type} (rs : List (List α)) (r : List α) : ends (rs ++ [r]) = ends rs ++ [rs.flatten.length + r.length] := by
  apply List.ext_getElem?
  intro i
  by_cases h : i < rs.length
  · rw [ends_at (by simp; omega), List.getElem?_append_left (by rw [ends_len]; exact h), ends_at h, List.take_append_of_le_length (by omega)]
  · by_cases h2 : i = rs.length
    · subst h2
      rw [ends_at (by simp), List.getElem?_append_right (by rw [ends_len]; exact Nat.le_refl _), ends_len, List.take_of_length_le (by simp)]
      simp
    · rw [List.getElem?_eq_none (by rw [ends_len]; simp; omega), List.getElem?_eq_none (by rw [List.length_append, ends_len]; simp; omega)]
theorem take_succ {α : Type} {rs : List (List α)} {k : Nat} {r : List α} (h : rs[k]? = some r) : (rs.take (k + 1)).flatten.length = (rs.take k).flatten.length + r.length := by
  rw [List.take_add_one, h]
  simp
theorem take_le {α : Type} (rs : List (List α)) (k : Nat) : (rs.take k).flatten.length ≤ rs.flatten.length := by
  have h := congrArg (fun l => l.flatten.length) (List.take_append_drop k rs)
  simp only [List.flatten_append, List.length_append] at h
  omega
theorem flat_at2 {α : Type} {rs : List (List α)} {k i : Nat} {r : List α} (h : rs[k]? = some r) (hi : i < r.length) : rs.flatten[(rs.take k).flatten.length + i]? = r[i]? := by
  have hk : k < rs.length := (List.getElem?_eq_some_iff.1 h).1
  have hr := (List.getElem?_eq_some_iff.1 h).2
  have e : rs = rs.take k ++ r :: rs.drop (k + 1) := by rw [← hr, List.getElem_cons_drop, List.take_append_drop]
  have e2 : rs.flatten = (rs.take k).flatten ++ (r ++ (rs.drop (k + 1)).flatten) := by
    conv => lhs; rw [e]
    simp
  rw [e2, List.getElem?_append_right (Nat.le_add_right _ _), Nat.add_sub_cancel_left, List.getElem?_append_left hi]
theorem flat_set {α : Type} {rs : List (List α)} {k i : Nat} {r : List α} {v : α} (h : rs[k]? = some r) (hi : i < r.length) : rs.flatten.set ((rs.take k).flatten.length + i) v = (rs.set k (r.set i v)).flatten := by
  have hk : k < rs.length := (List.getElem?_eq_some_iff.1 h).1
  have hr := (List.getElem?_eq_some_iff.1 h).2
  have e : rs = rs.take k ++ r :: rs.drop (k + 1) := by rw [← hr, List.getElem_cons_drop, List.take_append_drop]
  have e2 : rs.flatten = (rs.take k).flatten ++ (r ++ (rs.drop (k + 1)).flatten) := by
    conv => lhs; rw [e]
    simp
  have e3 : rs.set k (r.set i v) = rs.take k ++ (r.set i v) :: rs.drop (k + 1) := by
    conv => lhs; rw [e]
    rw [List.set_append, if_neg (by rw [List.length_take]; omega), List.length_take, show k - min k rs.length = 0 by omega]
    rfl
  rw [e2, e3, List.set_append, if_neg (by omega), Nat.add_sub_cancel_left, List.set_append, if_pos hi]
  simp
theorem ends_set {α : Type} {rs : List (List α)} {k : Nat} {r r' : List α} (h : rs[k]? = some r) (hl : r'.length = r.length) : ends (rs.set k r') = ends rs := by
  have key : ∀ j, ((rs.set k r').take j).flatten.length = (rs.take j).flatten.length := by
    intro j
    have : ∀ (xs : List (List α)), xs.flatten.length = (xs.map List.length).sum := fun xs => List.length_flatten
    rw [this, this, List.map_take, List.map_take]
    congr 2
    apply List.ext_getElem?
    intro i
    simp only [List.getElem?_map, List.getElem?_set]
    split
    · rename_i e
      subst e
      rw [h]
      split
      · simp [hl]
      · rename_i hn
        exact absurd (List.getElem?_eq_some_iff.1 h).1 hn
    · rfl
  unfold ends
  rw [List.length_set]
  exact List.map_congr_left (fun i _ => key (i + 1))
def Hs.used (s : Hs) : Nat := s.l.length + (s.l.map (·.vs)).flatten.length
def Hs.flat (s : Hs) : St := ⟨s.lim, s.l.map (·.cl), (s.l.map (·.ts)).flatten, ends (s.l.map (·.ts)), (s.l.map (·.vs)).flatten, ends (s.l.map (·.vs))⟩
def Th.Ok (t : Th) : Prop := (t.cl = -1 ∧ t.ts.length = 1) ∨ (0 ≤ t.cl ∧ t.ts.length = t.vs.length)
structure Hs.Ok (s : Hs) : Prop where
  lim : s.lim ≤ 1048576
  used : s.used ≤ s.lim
  th : ∀ t ∈ s.l, t.Ok
theorem types_le : ∀ {l : List Th}, (∀ t ∈ l, t.Ok) → (l.map (·.ts)).flatten.length ≤ l.length + (l.map (·.vs)).flatten.length
  | [], _ => by simp
  | t :: l, h => by
    have ih := types_le (l := l) (fun x hx => h x (by simp [hx]))
    have ht := h t (by simp)
    simp only [List.map_cons, List.flatten_cons, List.length_append, List.length_cons]
    rcases ht with ⟨-, h1⟩ | ⟨-, h1⟩ <;> omega
def Hs.thing (s : Hs) (ref : Int) : Option Th := if 1 ≤ ref then s.l[(ref - 1).toNat]? else none
end Hp
theorem clsOf_flat (s : Hp.Hs) (ref : Int) : clsOf s.flat ref = (s.thing ref).map (·.cl) := by
  unfold clsOf Hp.Hs.thing Hp.Hs.flat
  split
  · simp
  · rfl
/-- Which values fit. -/
def fitsOf (t : Hp.Ty) (v : Hp.Vl) : Bool := match zeroOf t with
  | none => false
  | some z => decide (z.k = v.k) && (if v.k = 1 then decide (-2147483648 ≤ v.n) && decide (v.n ≤ 2147483647) else if v.k = 3 then decide (0 ≤ v.n) else true)
namespace Hp
/-- What Array does. -/
def Hs.arr (s : Hs) (t : Ty) (n : Int) : Hs × Int × Int := match zeroOf t with
  | none => (s, 0, 1)
  | some z => if n < 0 then (s, 0, 63) else if 65536 < n ∨ ¬ (n < (s.lim : Int) - s.used) then (s, 0, 6) else ({ s with l := s.l ++ [⟨-1, [t], List.replicate n.toNat z⟩] }, s.l.length + 1, 0)
/-- What Object does. -/
def Hs.obj (s : Hs) (c : Int) (ts : List Ty) : Hs × Int × Int :=
  if c < 0 ∨ ∃ t ∈ ts, zeroOf t = none then (s, 0, 1) else if ¬ ((ts.length : Int) < (s.lim : Int) - s.used) then (s, 0, 6) else ({ s with l := s.l ++ [⟨c, ts, ts.map fun t => (zeroOf t).getD V0⟩] }, s.l.length + 1, 0)
/-- What an element, a field is: its value, or what is wrong. -/
def Hs.el (s : Hs) (ref i : Int) : Vl × Int := match s.thing ref with
  | none => (V0, 60)
  | some t => if t.cl = -1 then (if 0 ≤ i then (match t.vs[i.toNat]? with | some v => (v, 0) | none => (V0, 61)) else (V0, 61)) else (V0, 60)
def Hs.fd (s : Hs) (ref i : Int) : Vl × Int := match s.thing ref with
  | none => (V0, 60)
  | some t => if t.cl = -1 then (V0, 60) else if 0 ≤ i then (match t.vs[i.toNat]? with | some v => (v, 0) | none => (V0, 61)) else (V0, 61)
/-- A thing's cell is another. -/
def Hs.put (s : Hs) (ref i : Int) (v : Vl) : Hs := match s.thing ref with
  | none => s
  | some t => { s with l := s.l.set (ref - 1).toNat { t with vs := t.vs.set i.toNat v } }
/-- What Store, Set do. -/
def Hs.st (s : Hs) (ref i : Int) (v : Vl) : Hs × Int := if (s.el ref i).2 ≠ 0 then (s, (s.el ref i).2) else match s.thing ref with
  | some t => if fitsOf (t.ts.headD T0) v then (s.put ref i v, 0) else (s, 62)
  | none => (s, 60)
def Hs.se (s : Hs) (ref i : Int) (v : Vl) : Hs × Int := if (s.fd ref i).2 ≠ 0 then (s, (s.fd ref i).2) else match s.thing ref with
  | some t => if fitsOf (t.ts.getD i.toNat T0) v then (s.put ref i v, 0) else (s, 62)
  | none => (s, 60)
end Hp
end Go.Proofs.Ythembnakeikmeaa
namespace Go.Proofs.Ythembnakeikmeaa
open Go Go.RowKit

namespace Kit
theorem step_call3 {P : Program} {ops : Array Oper} {o : Oper} {a : Act} {w : World} {K : Act → World → Prop} {Q : Exit → Act → World → Prop} {E : Prop}
    (hg : o.guard = none) (f : FuncId) (x y z : Operand) (t t' t'' : TypeId) (hop : o.op = Op.call { callee := Callee.value (.func f), args := #[x, y, z], argTypes := #[t, t', t''] }) (v v' v'' : Value) (hx : a.eval x = v) (hy : a.eval y = v') (hz : a.eval z = v'') (hcf : (callFunc f #[v, v', v'']).run P w = .ok (.enter f #[v, v', v'']) w)
    (R : Ending → World → Prop) (hC : Calls P f #[v, v', v''] w R) (hR : ∀ e w', R e w' → ∃ u, e = .returned u ∧ K (a.put o.dst u) w') :
    if Region.wanted o (yielded ops a.tmps) = true then Oper.wp P o a w K Q else E := by
  have hw : Region.wanted o (yielded ops a.tmps) = true := by simp [Region.wanted, hg]
  rw [if_pos hw]
  have hrun : (execOp a.eval o).run P w = .ok (.enter f #[v, v', v'']) w := by
    cases o
    simp only at hop
    subst hop hx hy hz
    rw [execOp_call_go]
    simpa using hcf
  unfold Oper.wp
  rw [hrun]
  show Calls P f #[v, v', v''] w _
  refine hC.mono ?_
  intro e w' h
  obtain ⟨u, rfl, hk⟩ := hR e w' h
  exact hk
end Kit
theorem zero_kinds {t : Hp.Ty} {z : Hp.Vl} (h : zeroOf t = some z) : z = ⟨1, 0⟩ ∨ z = ⟨2, 0⟩ ∨ z = ⟨3, 0⟩ := by
  unfold zeroOf at h
  split at h
  · exact .inl (Option.some.inj h).symm
  · split at h
    · exact .inr (.inl (Option.some.inj h).symm)
    · split at h
      · exact .inr (.inr (Option.some.inj h).symm)
      · cases h
set_option maxRecDepth 100000 in
set_option maxHeartbeats 1000000 in
theorem fits2_any (t : Hp.Ty) (v : Hp.Vl) (w : World) :
    Calls Try.prog 59 #[tA t, vA v] w fun e w' => e = .returned (.bool (fitsOf t v)) ∧ Below w.heap.size w w' := by
  have HZ0 := fun W => zero_any t W
  obtain ⟨r, hr⟩ : ∃ r, r = fitsOf t v := ⟨_, rfl⟩
  rw [← hr]
  unfold fitsOf at hr
  obtain ⟨vk, vn⟩ := v
  dsimp only at hr
  cases hz : zeroOf t with
  | none =>
    rw [hz] at hr HZ0
    obtain ⟨tk, ts⟩ := t
    unfold tA vA zV at *
    dsimp only [Option.getD_none, Option.isSome_none, Hp.V0, vA] at HZ0
    have HZ := hid HZ0
    have HRr := hid hr
    clear hr hz HZ0
    go_enter Try.func59, Try.ntmps59
    (go_wp2_with fail; refine (HZ.out _).mono ?_; rintro e w3 ⟨rfl, hb3⟩; have hz3 := hb3.size; simp only [World.size_alloc] at hz3; have hB3 := belows (B := w.heap.size) (a := w) (by repeat' first | with_reducible exact Below.refl _ _ | with_reducible assumption | with_reducible refine belows_drewN ?_ _ | with_reducible refine Below.drew ?_ | with_reducible refine Below.setCell ?_ ?_ _ | with_reducible refine Below.alloc ?_ ?_ _ | omega | (simp; done) | (simp; omega)) hb3 (by simp; omega); have hz4 : w.heap.size + 1 < w3.heap.size := (by omega); have bv := (BX.new (w.alloc (.cells #[.int .i64 tk, .string ts] 33)) #[.int .i64 _, .int .i64 vn] 35).below hb3; rw [World.size_alloc] at bv; have x0 := bv.cell 0; have x1 := bv.cell 1; simp at x0 x1; clear bv hb3)
    go_wp2
    go_ret
    exact ⟨by rw [HRr.out]; rfl, (by repeat' first | with_reducible exact Below.refl _ _ | with_reducible assumption | with_reducible refine belows_drewN ?_ _ | with_reducible refine Below.drew ?_ | with_reducible refine Below.setCell ?_ ?_ _ | with_reducible refine Below.alloc ?_ ?_ _ | omega | (simp; done) | (simp; omega))⟩
  | some z =>
    rw [hz] at hr HZ0
    have hk := zero_kinds hz
    obtain ⟨tk, ts⟩ := t
    unfold tA vA zV at *
    dsimp only [Option.getD_some, Option.isSome_some] at HZ0
    unfold vA at HZ0
    by_cases e : z.k = vk
    · subst e
      simp only [decide_true, Bool.true_and] at hr
      rcases hk with rfl | rfl | rfl
      all_goals
        have HZ := hid HZ0
        have HRr := hid hr
        clear hr hz HZ0
        dsimp only at *
        go_enter Try.func59, Try.ntmps59
        (go_wp2_with fail; refine (HZ.out _).mono ?_; rintro e w3 ⟨rfl, hb3⟩; have hz3 := hb3.size; simp only [World.size_alloc] at hz3; have hB3 := belows (B := w.heap.size) (a := w) (by repeat' first | with_reducible exact Below.refl _ _ | with_reducible assumption | with_reducible refine belows_drewN ?_ _ | with_reducible refine Below.drew ?_ | with_reducible refine Below.setCell ?_ ?_ _ | with_reducible refine Below.alloc ?_ ?_ _ | omega | (simp; done) | (simp; omega)) hb3 (by simp; omega); have hz4 : w.heap.size + 1 < w3.heap.size := (by omega); have bv := (BX.new (w.alloc (.cells #[.int .i64 tk, .string ts] 33)) #[.int .i64 _, .int .i64 vn] 35).below hb3; rw [World.size_alloc] at bv; have x0 := bv.cell 0; have x1 := bv.cell 1; simp at x0 x1; clear bv hb3)
        go_wp2
        all_goals go_ret
        all_goals refine ⟨?_, (by repeat' first | with_reducible exact Below.refl _ _ | with_reducible assumption | with_reducible refine belows_drewN ?_ _ | with_reducible refine Below.drew ?_ | with_reducible refine Below.setCell ?_ ?_ _ | with_reducible refine Below.alloc ?_ ?_ _ | omega | (simp; done) | (simp; omega))⟩
        all_goals rw [HRr.out]
        all_goals (simp <;> omega)
    · have hd : (z.k != vk) = true := by simpa using e
      have HRr : Hid (r = false) := by
        show r = false
        rw [hr]
        simp [e]
      have HZ := hid HZ0
      clear hr hz HZ0 e hk
      go_enter Try.func59, Try.ntmps59
      (go_wp2_with fail; refine (HZ.out _).mono ?_; rintro e w3 ⟨rfl, hb3⟩; have hz3 := hb3.size; simp only [World.size_alloc] at hz3; have hB3 := belows (B := w.heap.size) (a := w) (by repeat' first | with_reducible exact Below.refl _ _ | with_reducible assumption | with_reducible refine belows_drewN ?_ _ | with_reducible refine Below.drew ?_ | with_reducible refine Below.setCell ?_ ?_ _ | with_reducible refine Below.alloc ?_ ?_ _ | omega | (simp; done) | (simp; omega)) hb3 (by simp; omega); have hz4 : w.heap.size + 1 < w3.heap.size := (by omega); have bv := (BX.new (w.alloc (.cells #[.int .i64 tk, .string ts] 33)) #[.int .i64 _, .int .i64 vn] 35).below hb3; rw [World.size_alloc] at bv; have x0 := bv.cell 0; have x1 := bv.cell 1; simp at x0 x1; clear bv hb3)
      go_wp2
      go_ret
      exact ⟨by rw [HRr.out]; rfl, (by repeat' first | with_reducible exact Below.refl _ _ | with_reducible assumption | with_reducible refine belows_drewN ?_ _ | with_reducible refine Below.drew ?_ | with_reducible refine Below.setCell ?_ ?_ _ | with_reducible refine Below.alloc ?_ ?_ _ | omega | (simp; done) | (simp; omega))⟩
/-- What is told of a heap that goes on: a number, an error; the heap behind. -/
def OutPost (base : Nat) (H : HV) (o : Hp.Hs × Int × Int) (w : World) (e : Ending) (w' : World) : Prop := ∃ H', e = .returned (.tuple #[.int .i64 o.2.1, .int .i64 o.2.2]) ∧ Went w w' base H H' o.1.flat
theorem flat_cs (s : Hp.Hs) : s.flat.cs.length = s.l.length := by simp [Hp.Hs.flat]
theorem flat_te (s : Hp.Hs) : s.flat.te.length = s.l.length := by simp [Hp.Hs.flat, Hp.ends_len]
theorem flat_ve (s : Hp.Hs) : s.flat.ve.length = s.l.length := by simp [Hp.Hs.flat, Hp.ends_len]
theorem flat_used (s : Hp.Hs) : s.flat.cs.length + s.flat.vc.length = s.used := by simp [Hp.Hs.flat, Hp.Hs.used]
theorem Hp.Hs.Ok.sizes {s : Hp.Hs} (h : s.Ok) : s.flat.lim ≤ 1048576 ∧ s.flat.cs.length ≤ 1048576 ∧ s.flat.tc.length ≤ 1048576 ∧ s.flat.te.length ≤ 1048576 ∧ s.flat.vc.length ≤ 1048576 ∧ s.flat.ve.length ≤ 1048576 ∧ s.flat.cs.length + s.flat.vc.length ≤ 1048576 := by
  have h1 := h.lim
  have h2 := h.used
  have h3 := Hp.types_le h.th
  have h4 := flat_used s
  have h5 := flat_cs s
  have h6 := flat_te s
  have h7 := flat_ve s
  have h8 : s.flat.tc.length = (s.l.map (·.ts)).flatten.length := rfl
  have h9 : s.flat.lim = s.lim := rfl
  have h10 : s.flat.vc.length = (s.l.map (·.vs)).flatten.length := rfl
  have h11 : s.used = s.l.length + (s.l.map (·.vs)).flatten.length := rfl
  omega
theorem flat_arr (s : Hp.Hs) (t : Hp.Ty) (z : Hp.Vl) (n : Nat) : ({ s with l := s.l ++ [⟨-1, [t], List.replicate n z⟩] } : Hp.Hs).flat = { s.flat with cs := s.flat.cs ++ [-1], tc := s.flat.tc ++ [t], te := s.flat.te ++ [s.flat.tc.length + 1], vc := s.flat.vc ++ List.replicate n z, ve := s.flat.ve ++ [s.flat.vc.length + n] } := by
  simp [Hp.Hs.flat, Hp.ends_snoc]
theorem flat_obj (s : Hp.Hs) (c : Int) (ts : List Hp.Ty) (zs : List Hp.Vl) (hz : zs.length = ts.length) : ({ s with l := s.l ++ [⟨c, ts, zs⟩] } : Hp.Hs).flat = { s.flat with cs := s.flat.cs ++ [c], tc := s.flat.tc ++ ts, te := s.flat.te ++ [s.flat.tc.length + ts.length], vc := s.flat.vc ++ zs, ve := s.flat.ve ++ [s.flat.vc.length + ts.length] } := by
  simp [Hp.Hs.flat, Hp.ends_snoc, hz]
set_option maxRecDepth 100000 in
set_option maxHeartbeats 1000000 in
theorem Array_any {w : World} {base : Nat} {H : HV} {s : Hp.Hs} (h : Rep w base H s.flat) (ok : s.Ok) (t : Hp.Ty) (n : Int) (hn : -9223372036854775808 ≤ n ∧ n ≤ 9223372036854775807) :
    Calls Try.prog 14 #[.pointer (some ⟨H.hb, 0, none⟩), tA t, .int .i64 n] w (OutPost base H (s.arr t n) w) := by
  obtain ⟨o, ho⟩ : ∃ o, o = s.arr t n := ⟨_, rfl⟩
  rw [← ho]
  unfold OutPost
  unfold Hp.Hs.arr at ho
  have HZ0 := fun W => zero_any t W
  have HM := hid (fun X (k : Below w.heap.size w X) => isMade_any (h.below k))
  have HR := hid h
  obtain ⟨s1, s2, s3, s4, s5, s6, s7⟩ := ok.sizes
  have hgen := h.hb_lt
  obtain ⟨k0, -⟩ := h.cells
  obtain ⟨hb, hhb⟩ : ∃ hb, hb = H.hb := ⟨_, rfl⟩
  rw [← hhb] at hgen k0 HM ⊢
  have HHb := hid hhb
  clear h hhb
  cases hz : zeroOf t with
  | none =>
    rw [hz] at ho HZ0
    dsimp only at ho
    have HO := hid ho
    obtain ⟨tk, ts⟩ := t
    unfold tA zV at *
    dsimp only [Option.getD_none, Option.isSome_none, Hp.V0, vA] at HZ0
    have HZ := hid HZ0
    clear ho hz HZ0
    go_enter Try.func14, Try.ntmps14
    go_wp2_with fail
    refine (HM.out _ (by repeat' first | with_reducible exact Below.refl _ _ | with_reducible assumption | with_reducible refine belows_drewN ?_ _ | with_reducible refine Below.drew ?_ | with_reducible refine Below.setCell ?_ ?_ _ | with_reducible refine Below.alloc ?_ ?_ _ | omega | (simp; done) | (simp; omega))).mono ?_
    rintro e w1 ⟨rfl, rfl⟩
    go_wp2_with fail
    refine (HZ.out _).mono ?_
    rintro e w3 ⟨rfl, hb3⟩
    have hB3 := belows (B := w.heap.size) (a := w) (by repeat' first | with_reducible exact Below.refl _ _ | with_reducible assumption | with_reducible refine belows_drewN ?_ _ | with_reducible refine Below.drew ?_ | with_reducible refine Below.setCell ?_ ?_ _ | with_reducible refine Below.alloc ?_ ?_ _ | omega | (simp; done) | (simp; omega)) hb3 (by simp)
    go_wp2
    go_ret2
    have hz3 := hB3.size
    refine ⟨H, by rw [HO.out]; rfl, ?_⟩
    rw [HO.out]
    exact (Went.refl HR.out).below (by repeat' first | with_reducible exact Below.refl _ _ | with_reducible assumption | with_reducible refine belows_drewN ?_ _ | with_reducible refine Below.drew ?_ | with_reducible refine Below.setCell ?_ ?_ _ | with_reducible refine Below.alloc ?_ ?_ _ | omega | (simp; done) | (simp; omega))
  | some z =>
    have HA0 := fun (m : Nat) X (k : Below w.heap.size w X) (hm : s.flat.vc.length + m ≤ 1073741000) => addArray_any (HR.out.below k) t z m hz hm (by omega) (by omega) (by omega) (by omega)
    have HF0 := fun X (k : Below w.heap.size w X) => fits_any (HR.out.below k) n (by omega) (by omega)
    have hu : (s.flat.cs.length : Int) + (s.flat.vc.length : Int) = s.used := by have := flat_used s; omega
    rw [hu] at HF0
    rw [hz] at ho HZ0
    dsimp only at ho
    obtain ⟨tk, ts⟩ := t
    unfold tA zV at *
    dsimp only [Option.getD_some, Option.isSome_some, vA] at HZ0
    obtain ⟨ib, hib⟩ : ∃ ib, ib = H.ib := ⟨_, rfl⟩
    rw [← hib] at k0 HF0
    rw [← hib] at HA0
    have HZ := hid HZ0
    have HHi := hid hib
    have HU := hid hu
    clear hz HZ0 hib hu
    by_cases h1 : n < 0
    · rw [if_pos h1] at ho
      have HO := hid ho
      have hd : decide (n < 0) = true := by simpa using h1
      clear ho HA0 HF0
      go_enter Try.func14, Try.ntmps14
      (go_wp2_with fail; refine (HM.out _ (by repeat' first | with_reducible exact Below.refl _ _ | with_reducible assumption | with_reducible refine belows_drewN ?_ _ | with_reducible refine Below.drew ?_ | with_reducible refine Below.setCell ?_ ?_ _ | with_reducible refine Below.alloc ?_ ?_ _ | omega | (simp; done) | (simp; omega))).mono ?_; rintro e w1 ⟨rfl, rfl⟩; go_wp2_with fail; refine (HZ.out _).mono ?_; rintro e w3 ⟨rfl, hb3⟩; have hB3 := belows (B := w.heap.size) (a := w) (by repeat' first | with_reducible exact Below.refl _ _ | with_reducible assumption | with_reducible refine belows_drewN ?_ _ | with_reducible refine Below.drew ?_ | with_reducible refine Below.setCell ?_ ?_ _ | with_reducible refine Below.alloc ?_ ?_ _ | omega | (simp; done) | (simp; omega)) hb3 (by simp); have hz3 := hB3.size; have kk := hB3.cell (p := ⟨hb, 0, none⟩) (by simpa using hgen); rw [k0] at kk; have hz4 : hb < w3.heap.size := (by omega); have bt := (BX.new w #[.int .i64 tk, .string ts] 33).below hb3; have x0 := bt.cell 0; have x1 := bt.cell 1; simp at x0 x1; have hz5 := bt.sz; clear bt hb3)
      go_wp2
      go_ret2
      (refine ⟨H, by rw [HO.out]; rfl, ?_⟩; rw [HO.out]; exact (Went.refl HR.out).below (by repeat' first | with_reducible exact Below.refl _ _ | with_reducible assumption | with_reducible refine belows_drewN ?_ _ | with_reducible refine Below.drew ?_ | with_reducible refine Below.setCell ?_ ?_ _ | with_reducible refine Below.alloc ?_ ?_ _ | omega | (simp; done) | (simp; omega)))
    · rw [if_neg h1] at ho
      have hd : decide (n < 0) = false := by simpa using h1
      by_cases h2 : 65536 < n
      · rw [if_pos (.inl h2)] at ho
        have HO := hid ho
        have hd2 : decide (65536 < n) = true := by simpa using h2
        clear ho HA0 HF0
        go_enter Try.func14, Try.ntmps14
        (go_wp2_with fail; refine (HM.out _ (by repeat' first | with_reducible exact Below.refl _ _ | with_reducible assumption | with_reducible refine belows_drewN ?_ _ | with_reducible refine Below.drew ?_ | with_reducible refine Below.setCell ?_ ?_ _ | with_reducible refine Below.alloc ?_ ?_ _ | omega | (simp; done) | (simp; omega))).mono ?_; rintro e w1 ⟨rfl, rfl⟩; go_wp2_with fail; refine (HZ.out _).mono ?_; rintro e w3 ⟨rfl, hb3⟩; have hB3 := belows (B := w.heap.size) (a := w) (by repeat' first | with_reducible exact Below.refl _ _ | with_reducible assumption | with_reducible refine belows_drewN ?_ _ | with_reducible refine Below.drew ?_ | with_reducible refine Below.setCell ?_ ?_ _ | with_reducible refine Below.alloc ?_ ?_ _ | omega | (simp; done) | (simp; omega)) hb3 (by simp); have hz3 := hB3.size; have kk := hB3.cell (p := ⟨hb, 0, none⟩) (by simpa using hgen); rw [k0] at kk; have hz4 : hb < w3.heap.size := (by omega); have bt := (BX.new w #[.int .i64 tk, .string ts] 33).below hb3; have x0 := bt.cell 0; have x1 := bt.cell 1; simp at x0 x1; have hz5 := bt.sz; clear bt hb3)
        go_wp2
        go_ret2
        (refine ⟨H, by rw [HO.out]; rfl, ?_⟩; rw [HO.out]; exact (Went.refl HR.out).below (by repeat' first | with_reducible exact Below.refl _ _ | with_reducible assumption | with_reducible refine belows_drewN ?_ _ | with_reducible refine Below.drew ?_ | with_reducible refine Below.setCell ?_ ?_ _ | with_reducible refine Below.alloc ?_ ?_ _ | omega | (simp; done) | (simp; omega)))
      · have hd2 : decide (65536 < n) = false := by simpa using h2
        by_cases h3 : n < (s.lim : Int) - s.used
        · rw [if_neg (by intro e; rcases e with e | e; exact h2 e; exact e h3)] at ho
          have hde : decide (n < (s.flat.lim : Int) - (s.used : Int)) = true := by (show decide (n < (s.lim : Int) - _) = true); simpa using h3
          rw [hde] at HF0
          obtain ⟨m, rfl⟩ : ∃ m : Nat, n = m := ⟨n.toNat, by omega⟩
          have hul := ok.used
          have hll := ok.lim
          have hul2 := flat_used s
          have HA1 := HA0 m
          have hmm : s.flat.vc.length + m ≤ 1073741000 := by omega
          have HO := hid ho
          have HF := hid HF0
          have HA := hid (fun X k => HA1 X k hmm)
          have HC := hid (flat_cs s)
          unfold AddPost at HA
          dsimp only at HA
          clear ho HA0 HF0 HA1 hde h3 h2 h1 hul hll hul2 hmm
          go_enter Try.func14, Try.ntmps14
          (go_wp2_with fail; refine (HM.out _ (by repeat' first | with_reducible exact Below.refl _ _ | with_reducible assumption | with_reducible refine belows_drewN ?_ _ | with_reducible refine Below.drew ?_ | with_reducible refine Below.setCell ?_ ?_ _ | with_reducible refine Below.alloc ?_ ?_ _ | omega | (simp; done) | (simp; omega))).mono ?_; rintro e w1 ⟨rfl, rfl⟩; go_wp2_with fail; refine (HZ.out _).mono ?_; rintro e w3 ⟨rfl, hb3⟩; have hB3 := belows (B := w.heap.size) (a := w) (by repeat' first | with_reducible exact Below.refl _ _ | with_reducible assumption | with_reducible refine belows_drewN ?_ _ | with_reducible refine Below.drew ?_ | with_reducible refine Below.setCell ?_ ?_ _ | with_reducible refine Below.alloc ?_ ?_ _ | omega | (simp; done) | (simp; omega)) hb3 (by simp); have hz3 := hB3.size; have kk := hB3.cell (p := ⟨hb, 0, none⟩) (by simpa using hgen); rw [k0] at kk; have hz4 : hb < w3.heap.size := (by omega); have bt := (BX.new w #[.int .i64 tk, .string ts] 33).below hb3; have x0 := bt.cell 0; have x1 := bt.cell 1; simp at x0 x1; have hz5 := bt.sz; clear bt hb3)
          go_wp2_with fail
          refine (HF.out _ (by repeat' first | with_reducible exact Below.refl _ _ | with_reducible assumption | with_reducible refine belows_drewN ?_ _ | with_reducible refine Below.drew ?_ | with_reducible refine Below.setCell ?_ ?_ _ | with_reducible refine Below.alloc ?_ ?_ _ | omega | (simp; done) | (simp; omega))).mono ?_
          rintro e w4 ⟨rfl, mm, rfl⟩
          go_wp2
          have cfA := fun (u v x : Value) (w : World) => (show (callFunc 40 #[u, v, x]).run Try.prog w = .ok (.enter 40 #[u, v, x]) w by kernel_rfl)
          obtain ⟨X, hX⟩ : ∃ X, X = (w3.alloc (.cells #[.int .i64 z.k, .int .i64 z.n] 35)).drewN mm := ⟨_, rfl⟩
          have bX : Below w.heap.size w X := by rw [hX]; exact (by repeat' first | with_reducible exact Below.refl _ _ | with_reducible assumption | with_reducible refine belows_drewN ?_ _ | with_reducible refine Below.drew ?_ | with_reducible refine Below.setCell ?_ ?_ _ | with_reducible refine Below.alloc ?_ ?_ _ | omega | (simp; done) | (simp; omega))
          have xx := bX.cell (p := ⟨hb, 0, none⟩) (by simpa using hgen)
          rw [k0] at xx
          have xy0 : X.cell? ⟨w.heap.size, 0, none⟩ = some (.int .i64 tk) := by rw [hX]; exact (World.cell?_alloc_past _ _ _ hz5).trans x0
          have xy1 : X.cell? ⟨w.heap.size, 1, none⟩ = some (.string ts) := by rw [hX]; exact (World.cell?_alloc_past _ _ _ hz5).trans x1
          rw [← hX]
          clear hX x0 x1 kk hB3 hz3 hz4 hz5
          go_region_law (refine Kit.step_call3 rfl 40 (.tmp 36) (.tmp 37) (.tmp 38) 57 33 3 rfl _ _ _ rfl rfl rfl (cfA _ _ _ _) _ (HA.out _ (by repeat' first | with_reducible exact Below.refl _ _ | with_reducible assumption | with_reducible refine belows_drewN ?_ _ | with_reducible refine Below.drew ?_ | with_reducible refine Below.setCell ?_ ?_ _ | with_reducible refine Below.alloc ?_ ?_ _ | omega | (simp; done) | (simp; omega))) ?_; rintro e w5 ⟨H5, rfl, hW5⟩; refine ⟨_, rfl, ?_⟩; have HW5 := hid (Went.start (a := w) (by repeat' first | with_reducible exact Below.refl _ _ | with_reducible assumption | with_reducible refine belows_drewN ?_ _ | with_reducible refine Below.drew ?_ | with_reducible refine Below.setCell ?_ ?_ _ | with_reducible refine Below.alloc ?_ ?_ _ | omega | (simp; done) | (simp; omega)) hW5); clear hW5)
          all_goals go_wp2
          all_goals go_ret2
          all_goals
            refine ⟨H5, by rw [HO.out, HC.out]; rfl, ?_⟩
            rw [HO.out]
            have hf := HW5.out
            rw [← flat_arr] at hf
            exact hf
        · rw [if_pos (.inr h3)] at ho
          have hde : decide (n < (s.flat.lim : Int) - (s.used : Int)) = false := by (show decide (n < (s.lim : Int) - _) = false); simpa using h3
          rw [hde] at HF0
          have HO := hid ho
          have HF := hid HF0
          clear ho HA0 HF0 hde h3
          go_enter Try.func14, Try.ntmps14
          (go_wp2_with fail; refine (HM.out _ (by repeat' first | with_reducible exact Below.refl _ _ | with_reducible assumption | with_reducible refine belows_drewN ?_ _ | with_reducible refine Below.drew ?_ | with_reducible refine Below.setCell ?_ ?_ _ | with_reducible refine Below.alloc ?_ ?_ _ | omega | (simp; done) | (simp; omega))).mono ?_; rintro e w1 ⟨rfl, rfl⟩; go_wp2_with fail; refine (HZ.out _).mono ?_; rintro e w3 ⟨rfl, hb3⟩; have hB3 := belows (B := w.heap.size) (a := w) (by repeat' first | with_reducible exact Below.refl _ _ | with_reducible assumption | with_reducible refine belows_drewN ?_ _ | with_reducible refine Below.drew ?_ | with_reducible refine Below.setCell ?_ ?_ _ | with_reducible refine Below.alloc ?_ ?_ _ | omega | (simp; done) | (simp; omega)) hb3 (by simp); have hz3 := hB3.size; have kk := hB3.cell (p := ⟨hb, 0, none⟩) (by simpa using hgen); rw [k0] at kk; have hz4 : hb < w3.heap.size := (by omega); have bt := (BX.new w #[.int .i64 tk, .string ts] 33).below hb3; have x0 := bt.cell 0; have x1 := bt.cell 1; simp at x0 x1; have hz5 := bt.sz; clear bt hb3)
          go_wp2_with fail
          refine (HF.out _ (by repeat' first | with_reducible exact Below.refl _ _ | with_reducible assumption | with_reducible refine belows_drewN ?_ _ | with_reducible refine Below.drew ?_ | with_reducible refine Below.setCell ?_ ?_ _ | with_reducible refine Below.alloc ?_ ?_ _ | omega | (simp; done) | (simp; omega))).mono ?_
          rintro e w4 ⟨rfl, mm, rfl⟩
          go_wp2
          go_ret2
          (refine ⟨H, by rw [HO.out]; rfl, ?_⟩; rw [HO.out]; exact (Went.refl HR.out).below (by repeat' first | with_reducible exact Below.refl _ _ | with_reducible assumption | with_reducible refine belows_drewN ?_ _ | with_reducible refine Below.drew ?_ | with_reducible refine Below.setCell ?_ ?_ _ | with_reducible refine Below.alloc ?_ ?_ _ | omega | (simp; done) | (simp; omega)))
end Go.Proofs.Ythembnakeikmeaa
namespace Go.Proofs.Ythembnakeikmeaa
open Go Go.RowKit

/-- All types are such as a place may have, the first so many. -/
def AllZ (ts : List Hp.Ty) (k : Nat) : Prop := ∀ j t, j < k → ts[j]? = some t → zeroOf t ≠ none
theorem allZ_map {ts : List Hp.Ty} (h : AllZ ts ts.length) : ts.map zeroOf = (ts.map fun t => (zeroOf t).getD Hp.V0).map some := by
  rw [List.map_map]
  apply List.map_congr_left
  intro t ht
  obtain ⟨j, hj⟩ := List.mem_iff_getElem?.1 ht
  have h1 := h j t (List.getElem?_eq_some_iff.1 hj).1 hj
  cases hz : zeroOf t with
  | none => exact absurd hz h1
  | some z => simp [hz]
theorem allZ_no {ts : List Hp.Ty} (h : AllZ ts ts.length) : ¬ ∃ t ∈ ts, zeroOf t = none := by
  rintro ⟨t, ht, hz⟩
  obtain ⟨j, hj⟩ := List.mem_iff_getElem?.1 ht
  exact h j t (List.getElem?_eq_some_iff.1 hj).1 hj hz
set_option maxRecDepth 100000 in
set_option maxHeartbeats 1000000 in
theorem Object_any {w : World} {base : Nat} {H : HV} {s : Hp.Hs} (h : Rep w base H s.flat) (ok : s.Ok) (c : Int) (ts : List Hp.Ty) (v : Value) (hv : IsO H.foot 2 w v ts.length (ts.flatMap tL)) :
    Calls Try.prog 19 #[.pointer (some ⟨H.hb, 0, none⟩), .int .i64 c, v] w (OutPost base H (s.obj c ts) w) := by
  obtain ⟨out, ho⟩ : ∃ out, out = s.obj c ts := ⟨_, rfl⟩
  rw [← ho]
  unfold OutPost
  unfold Hp.Hs.obj at ho
  have HZ0 := fun t W => zero_any t W
  have HM := hid (fun X (k : Below w.heap.size w X) => isMade_any (h.below k))
  have HR := hid h
  obtain ⟨s1, s2, s3, s4, s5, s6, s7⟩ := ok.sizes
  have hgen := h.hb_lt
  obtain ⟨k0, -⟩ := h.cells
  have HA0 := fun X (k : Below w.heap.size w X) zs hz hm1 hm2 => addObject_any (HR.out.below k) c ts zs v hz (hv.below k) hm1 (by omega) (by omega) hm2 (by omega)
  have HF0 := fun X (k : Below w.heap.size w X) => fits_any (HR.out.below k) ts.length (by omega) (by omega)
  have hu : (s.flat.cs.length : Int) + (s.flat.vc.length : Int) = s.used := by have := flat_used s; omega
  rw [hu] at HF0
  obtain ⟨hb, hhb⟩ : ∃ hb, hb = H.hb := ⟨_, rfl⟩
  obtain ⟨ib, hib⟩ : ∃ ib, ib = H.ib := ⟨_, rfl⟩
  rw [← hib] at k0 HF0
  rw [← hib] at HA0
  rw [← hhb] at hgen k0 HM ⊢
  have HHb := hid hhb
  have HHi := hid hib
  have HU := hid hu
  have HVV := hid (fun X (k : Below w.heap.size w X) => hv.below k)
  have htl := hv.2.1
  obtain ⟨va0, vcap, rfl⟩ := hv.len
  clear h hhb hib hu hv
  by_cases h1 : c < 0
  · rw [if_pos (.inl h1)] at ho
    have HO := hid ho
    have hd : decide (c < 0) = true := by simpa using h1
    clear ho HA0 HF0 HZ0
    go_enter Try.func19, Try.ntmps19
    go_wp2_with fail
    refine (HM.out _ (by repeat' first | with_reducible exact Below.refl _ _ | with_reducible assumption | with_reducible refine belows_drewN ?_ _ | with_reducible refine Below.drew ?_ | with_reducible refine Below.setCell ?_ ?_ _ | with_reducible refine Below.alloc ?_ ?_ _ | omega | (simp; done) | (simp; omega))).mono ?_
    rintro e w1 ⟨rfl, rfl⟩
    go_wp2
    go_ret2
    (refine ⟨H, by rw [HO.out]; rfl, ?_⟩; rw [HO.out]; exact (Went.refl HR.out).below (by repeat' first | with_reducible exact Below.refl _ _ | with_reducible assumption | with_reducible refine belows_drewN ?_ _ | with_reducible refine Below.drew ?_ | with_reducible refine Below.setCell ?_ ?_ _ | with_reducible refine Below.alloc ?_ ?_ _ | omega | (simp; done) | (simp; omega)))
  · have hd : decide (c < 0) = false := by simpa using h1
    have HO := hid ho
    have HA := hid HA0
    have HF := hid HF0
    have HZ := hid HZ0
    have H1 := hid h1
    clear ho HA0 HF0 HZ0 h1
    go_enter Try.func19, Try.ntmps19
    go_wp2_with fail
    refine (HM.out _ (by repeat' first | with_reducible exact Below.refl _ _ | with_reducible assumption | with_reducible refine belows_drewN ?_ _ | with_reducible refine Below.drew ?_ | with_reducible refine Below.setCell ?_ ?_ _ | with_reducible refine Below.alloc ?_ ?_ _ | omega | (simp; done) | (simp; omega))).mono ?_
    rintro e w1 ⟨rfl, rfl⟩
    go_wp2
    go_loopw [19] (fun i wr => ∃ k : Nat, k ≤ ts.length ∧ i = .int .i64 (k : Int) ∧ Hid (AllZ ts k) ∧ Below w.heap.size w wr) (fun i _ => ts.length - (intOf i).toNat)
    case atStart => exact ⟨0, by omega, rfl, fun j t hj => absurd hj (by omega), Below.refl _ _⟩
    case round =>
      obtain ⟨k, hk, rfl, HAz, hbl⟩ := hrel
      have hbz := hbl.size
      by_cases hlt : k < ts.length
      · obtain ⟨t, htk⟩ : ∃ t, ts[k]? = some t := ⟨_, List.getElem?_eq_getElem hlt⟩
        obtain ⟨b, o, cap, hsl, -, hbl2, -, hxx⟩ := (HVV.out _ hbl).some (by omega)
        obtain ⟨rfl, -, rfl⟩ := Value.slice.inj hsl
        obtain ⟨x0, x1⟩ := tL_at htk
        have y0 := hxx _ _ x0
        have y1 := hxx _ _ x1
        rw [← Nat.add_assoc] at y1
        have HT := hid htk
        cases hz : zeroOf t with
        | none =>
          have HZk0 := HZ.out t
          rw [hz] at HZk0
          unfold tA zV vA at HZk0
          dsimp only [Option.getD_none, Option.isSome_none, Hp.V0] at HZk0
          have HZk := hid HZk0
          have HO2 : Hid (out = (s, 0, 1)) := HO.out.trans (if_pos (.inr ⟨t, List.mem_of_getElem? htk, hz⟩))
          obtain ⟨tk, ts2⟩ := t
          dsimp only at y0 y1 HZk
          clear HZk0 hz hxx x0 x1 hsl htk
          go_wp2_with fail
          refine (HZk.out _).mono ?_
          rintro e w5 ⟨rfl, hb5⟩
          have hB5 := belows (B := w.heap.size) (a := w) (hbl.alloc hbz (.cells #[.int .i64 tk, .string ts2] 33)) hb5 (by simp; omega)
          have hz5 := hB5.size
          go_wp2
          go_ret2
          refine ⟨H, by rw [HO2.out]; rfl, ?_⟩
          rw [HO2.out]
          exact (Went.refl HR.out).below (by repeat' first | with_reducible exact Below.refl _ _ | with_reducible assumption | with_reducible refine belows_drewN ?_ _ | with_reducible refine Below.drew ?_ | with_reducible refine Below.setCell ?_ ?_ _ | with_reducible refine Below.alloc ?_ ?_ _ | omega | (simp; done) | (simp; omega))
        | some z =>
          have HZk0 := HZ.out t
          rw [hz] at HZk0
          unfold tA zV vA at HZk0
          dsimp only [Option.getD_some, Option.isSome_some] at HZk0
          have HZk := hid HZk0
          have HAz2 : Hid (AllZ ts (k + 1)) := fun j t' hj ht' => by
            by_cases hjk : j = k
            · subst hjk
              rw [htk] at ht'
              obtain rfl := Option.some.inj ht'
              rw [hz]
              simp
            · exact HAz.out j t' (by omega) ht'
          obtain ⟨tk, ts2⟩ := t
          dsimp only at y0 y1 HZk
          clear HZk0 hz hxx x0 x1 hsl htk
          go_wp2_with fail
          refine (HZk.out _).mono ?_
          rintro e w5 ⟨rfl, hb5⟩
          have hB5 := belows (B := w.heap.size) (a := w) (hbl.alloc hbz (.cells #[.int .i64 tk, .string ts2] 33)) hb5 (by simp; omega)
          have hz5 := hB5.size
          go_wp2
          go_roundw
          case rel => exact ⟨k + 1, by omega, by go_num, HAz2, (by repeat' first | with_reducible exact Below.refl _ _ | with_reducible assumption | with_reducible refine belows_drewN ?_ _ | with_reducible refine Below.drew ?_ | with_reducible refine Below.setCell ?_ ?_ _ | with_reducible refine Below.alloc ?_ ?_ _ | omega | (simp; done) | (simp; omega))⟩
          case measure => simp [intOf] <;> omega
      · obtain rfl : k = ts.length := by omega
        have kk := hbl.cell (p := ⟨hb, 0, none⟩) (by simpa using hgen)
        rw [k0] at kk
        have hno := allZ_no HAz.out
        by_cases h3 : (ts.length : Int) < (s.lim : Int) - s.used
        · have HO2 : Hid (out = _) := HO.out.trans ((if_neg (by rintro (e | e); (have := H1.out; omega); exact hno e)).trans (if_neg (by simpa using h3)))
          have hde : decide ((ts.length : Int) < (s.flat.lim : Int) - (s.used : Int)) = true := by (show decide ((ts.length : Int) < (s.lim : Int) - _) = true); simpa using h3
          have HF2 : Hid _ := HF
          rw [hde] at HF2
          have hul := ok.used
          have hll := ok.lim
          have hul2 := flat_used s
          have hul3 := Hp.types_le ok.th
          have hul4 : s.flat.tc.length = (s.l.map (·.ts)).flatten.length := rfl
          have hul5 : s.used = s.l.length + (s.l.map (·.vs)).flatten.length := rfl
          have hA2 := fun X k => HA.out X k _ (allZ_map HAz.out) (by omega) (by omega)
          have HC := hid (flat_cs s)
          unfold AddPost at hA2
          have HA2 := hid hA2
          clear hA2 hno hde h3 hul hll hul2 hul3 hul4 hul5
          go_wp2_with fail
          refine (HF2.out _ (by repeat' first | with_reducible exact Below.refl _ _ | with_reducible assumption | with_reducible refine belows_drewN ?_ _ | with_reducible refine Below.drew ?_ | with_reducible refine Below.setCell ?_ ?_ _ | with_reducible refine Below.alloc ?_ ?_ _ | omega | (simp; done) | (simp; omega))).mono ?_
          rintro e w4 ⟨rfl, mm, rfl⟩
          go_wp2_with fail
          refine (HA2.out _ (by repeat' first | with_reducible exact Below.refl _ _ | with_reducible assumption | with_reducible refine belows_drewN ?_ _ | with_reducible refine Below.drew ?_ | with_reducible refine Below.setCell ?_ ?_ _ | with_reducible refine Below.alloc ?_ ?_ _ | omega | (simp; done) | (simp; omega))).mono ?_
          rintro e w5 ⟨H5, rfl, hW5⟩
          have HW5 := hid (Went.start (a := w) (by repeat' first | with_reducible exact Below.refl _ _ | with_reducible assumption | with_reducible refine belows_drewN ?_ _ | with_reducible refine Below.drew ?_ | with_reducible refine Below.setCell ?_ ?_ _ | with_reducible refine Below.alloc ?_ ?_ _ | omega | (simp; done) | (simp; omega)) hW5)
          clear hW5
          go_wp2
          go_ret2
          refine ⟨H5, by rw [HO2.out, HC.out]; rfl, ?_⟩
          rw [HO2.out]
          have hf := HW5.out
          rw [← flat_obj _ _ _ _ (by simp)] at hf
          exact hf
        · have HO2 : Hid (out = _) := HO.out.trans ((if_neg (by rintro (e | e); (have := H1.out; omega); exact hno e)).trans (if_pos (by simpa using h3)))
          have hde : decide ((ts.length : Int) < (s.flat.lim : Int) - (s.used : Int)) = false := by (show decide ((ts.length : Int) < (s.lim : Int) - _) = false); simpa using h3
          have HF2 : Hid _ := HF
          rw [hde] at HF2
          clear hno hde h3
          go_wp2_with fail
          refine (HF2.out _ (by repeat' first | with_reducible exact Below.refl _ _ | with_reducible assumption | with_reducible refine belows_drewN ?_ _ | with_reducible refine Below.drew ?_ | with_reducible refine Below.setCell ?_ ?_ _ | with_reducible refine Below.alloc ?_ ?_ _ | omega | (simp; done) | (simp; omega))).mono ?_
          rintro e w4 ⟨rfl, mm, rfl⟩
          go_wp2
          go_ret2
          refine ⟨H, by rw [HO2.out]; rfl, ?_⟩
          rw [HO2.out]
          exact (Went.refl HR.out).below (by repeat' first | with_reducible exact Below.refl _ _ | with_reducible assumption | with_reducible refine belows_drewN ?_ _ | with_reducible refine Below.drew ?_ | with_reducible refine Below.setCell ?_ ?_ _ | with_reducible refine Below.alloc ?_ ?_ _ | omega | (simp; done) | (simp; omega))
end Go.Proofs.Ythembnakeikmeaa
namespace Go.Proofs.Ythembnakeikmeaa
open Go Go.RowKit

namespace Hp
theorem used_snoc (lim : Nat) (l : List Th) (t : Th) : (⟨lim, l ++ [t]⟩ : Hs).used = (⟨lim, l⟩ : Hs).used + 1 + t.vs.length := by
  simp [Hs.used]; omega
theorem arr_ok {s : Hs} (h : s.Ok) (t : Ty) (n : Int) : (s.arr t n).1.Ok := by
  unfold Hs.arr
  split
  · exact h
  · split
    · exact h
    · split
      · exact h
      · rename_i z _ h1 h2
        have h3 : n < (s.lim : Int) - s.used := by
          by_cases e : n < (s.lim : Int) - s.used
          · exact e
          · exact absurd (.inr e) h2
        refine ⟨h.lim, ?_, ?_⟩
        · show (⟨s.lim, s.l ++ [_]⟩ : Hs).used ≤ s.lim
          rw [used_snoc]
          simp only [List.length_replicate]
          have : (⟨s.lim, s.l⟩ : Hs).used = s.used := rfl
          omega
        · intro x hx
          rcases List.mem_append.1 hx with hx | hx
          · exact h.th x hx
          · rw [List.mem_singleton.1 hx]
            exact .inl ⟨rfl, rfl⟩
theorem obj_ok {s : Hs} (h : s.Ok) (c : Int) (ts : List Ty) : (s.obj c ts).1.Ok := by
  unfold Hs.obj
  split
  · exact h
  · split
    · exact h
    · rename_i h1 h2
      have h3 : (ts.length : Int) < (s.lim : Int) - s.used := by
        by_cases e : (ts.length : Int) < (s.lim : Int) - s.used
        · exact e
        · exact absurd e h2
      refine ⟨h.lim, ?_, ?_⟩
      · show (⟨s.lim, s.l ++ [_]⟩ : Hs).used ≤ s.lim
        rw [used_snoc]
        simp only [List.length_map]
        have : (⟨s.lim, s.l⟩ : Hs).used = s.used := rfl
        omega
      · intro x hx
        rcases List.mem_append.1 hx with hx | hx
        · exact h.th x hx
        · rw [List.mem_singleton.1 hx]
          exact .inr ⟨by show 0 ≤ c; have : ¬ c < 0 := fun e => h1 (.inl e); omega, by simp⟩
theorem new_ok {lim : Nat} (h : lim ≤ 1048576) : (⟨lim, []⟩ : Hs).Ok := ⟨h, by simp [Hs.used], fun t ht => by cases ht⟩
def tI : Ty := ⟨1, ⟨#[]⟩⟩
def tJ : Ty := ⟨2, ⟨#[]⟩⟩
def B1 : Hs := ⟨5, [⟨0, [tI, tJ], [⟨1, 0⟩, ⟨2, 0⟩]⟩]⟩
def B2 : Hs := ⟨5, [⟨0, [tI, tJ], [⟨1, 0⟩, ⟨2, 0⟩]⟩, ⟨-1, [tI], [⟨1, 0⟩]⟩]⟩
theorem b1 : (⟨5, []⟩ : Hs).obj 0 [tI, tJ] = (B1, 1, 0) := by
  simp [Hs.obj, zeroOf, tI, tJ, Hs.used, B1]
theorem b2 : B1.arr tI 2 = (B1, 0, 6) := by
  simp [Hs.arr, zeroOf, tI, Hs.used, B1]
theorem b3 : B1.arr tI 1 = (B2, 2, 0) := by
  simp [Hs.arr, zeroOf, tI, tJ, Hs.used, B1, B2]
theorem b4 : B2.used = 5 := by simp [Hs.used, B2]
theorem b1_ok : B1.Ok := by
  have h := obj_ok (new_ok (lim := 5) (by decide)) 0 [tI, tJ]
  rw [b1] at h
  exact h
theorem b2_ok : B2.Ok := by
  have h := arr_ok b1_ok tI 1
  rw [b3] at h
  exact h
end Hp
theorem flat_new (lim : Nat) : (⟨lim, []⟩ : Hp.Hs).flat = St0 lim := by simp [Hp.Hs.flat, St0, Hp.ends]
theorem isO_new {w : World} {cs : Array Value} {T : TypeId} {size n : Nat} {S : Nat → Prop} (hs : ¬ S w.heap.size) (hl : cs.size = n * size) (hn : n ≤ 140737488355328) : IsO S size (w.alloc (.cells cs T)) (.slice (some ⟨w.heap.size, 0, none⟩) n n) n cs.toList := by
  refine ⟨by simpa using hl, hn, .inr ⟨w.heap.size, 0, n, rfl, Nat.le_refl _, by simp, hs, fun i u hi => ?_⟩⟩
  rw [World.cell?_alloc_new, Nat.zero_add]
  simpa using hi
theorem Went.low {a b : World} {base : Nat} {H H' : HV} {s s' : Hp.St} (h : Went a b base H H' s') (hr : Rep a base H s) : Below base a b := h.chg.to_below (fun k e => (hr.low k e).1) (Nat.le_of_lt hr.base_lt)
theorem used_flat (s : Hp.Hs) : (s.flat.cs.length : Int) + (s.flat.vc.length : Int) = s.used := by have := flat_used s; omega
set_option maxRecDepth 100000 in
set_option maxHeartbeats 1000000 in
theorem begun_any (w : World) : Calls Try.prog 9 #[] w fun e w' => e = .returned (.bool true) ∧ Below w.heap.size w w' := by
  go_enter Try.func9, Try.ntmps9
  go_wp2_with fail
  refine (New_any w.heap.size 5 w (Nat.le_refl _) (by decide)).mono ?_
  rintro e w1 ⟨H, rfl, hR, hb1, hf⟩
  rw [← flat_new] at hR
  have hlow := hR.low
  have hO := Object_any (hR.alloc (.cells #[.int .i64 1, .string ⟨#[]⟩, .int .i64 2, .string ⟨#[]⟩] 33)) (Hp.new_ok (by decide)) 0 [Hp.tI, Hp.tJ] _ (isO_new (n := 2) (fun e => by have := hlow _ e; omega) rfl (by decide))
  rw [Hp.b1] at hO
  unfold OutPost at hO
  dsimp only at hO
  have HO := hid hO
  have hz1 := hb1.size
  have HR0 := hid (hR.alloc (.cells #[.int .i64 1, .string ⟨#[]⟩, .int .i64 2, .string ⟨#[]⟩] 33))
  obtain ⟨hb, hhb⟩ : ∃ hb, hb = H.hb := ⟨_, rfl⟩
  rw [← hhb] at HO ⊢
  have HHb := hid hhb
  clear hO hlow hf hR hhb
  go_wp2_with fail
  refine HO.out.mono ?_
  rintro e w2 ⟨H2, rfl, hW2⟩
  have B2 : Below w.heap.size w w2 := ((hb1.alloc hz1 _).mono (Nat.le_refl _)).trans (hW2.low HR0.out)
  have ok1 : Hp.B1.Ok := Hp.b1_ok
  have hA := Array_any hW2.rep ok1 Hp.tI 2 (by decide)
  rw [Hp.b2, hW2.hb, ← HHb.out] at hA
  unfold OutPost tA Hp.tI at hA
  dsimp only at hA
  have HA := hid hA
  have HR2 := hid hW2.rep
  have Hb2 := hid (hW2.hb.trans HHb.out.symm)
  clear hA hW2
  go_wp2_with fail
  refine HA.out.mono ?_
  rintro e w3 ⟨H3, rfl, hW3⟩
  have B3 := B2.trans (hW3.low HR2.out)
  have hA := Array_any hW3.rep ok1 Hp.tI 1 (by decide)
  rw [Hp.b3, hW3.hb, Hb2.out] at hA
  unfold OutPost tA Hp.tI at hA
  dsimp only at hA
  have HA3 := hid hA
  have HR3 := hid hW3.rep
  have Hb3 := hid (hW3.hb.trans Hb2.out)
  clear hA hW3
  go_wp2_with fail
  refine HA3.out.mono ?_
  rintro e w4 ⟨H4, rfl, hW4⟩
  have B4 := B3.trans (hW4.low HR3.out)
  have ok2 : Hp.B2.Ok := Hp.b2_ok
  obtain ⟨-, -, -, -, -, -, s7⟩ := ok2.sizes
  have hU := Used_any hW4.rep (by omega)
  rw [used_flat, Hp.b4, hW4.hb, Hb3.out] at hU
  have HU := hid hU
  clear hU hW4 s7
  go_wp2_with fail
  refine HU.out.mono ?_
  rintro e w5 ⟨rfl, m, rfl⟩
  go_wp2
  go_ret
  exact ⟨rfl, (by repeat' first | with_reducible exact Below.refl _ _ | with_reducible assumption | with_reducible refine belows_drewN ?_ _ | with_reducible refine Below.drew ?_ | with_reducible refine Below.setCell ?_ ?_ _ | with_reducible refine Below.alloc ?_ ?_ _ | omega | (simp; done) | (simp; omega))⟩
end Go.Proofs.Ythembnakeikmeaa
namespace Go.Proofs.Ythembnakeikmeaa
open Go Go.RowKit

theorem set_self {α : Type} {l : List α} {k : Nat} {x : α} (h : l[k]? = some x) : l.set k x = l := by
  obtain ⟨hk, rfl⟩ := List.getElem?_eq_some_iff.1 h
  exact List.set_getElem_self hk
def loV (s : Hp.Hs) (k : Nat) : Nat := ((s.l.map (·.vs)).take k).flatten.length
def loT (s : Hp.Hs) (k : Nat) : Nat := ((s.l.map (·.ts)).take k).flatten.length
theorem thing_at {s : Hp.Hs} {ref : Int} {t : Hp.Th} (h : s.thing ref = some t) : 1 ≤ ref ∧ (ref - 1).toNat < s.l.length ∧ s.l[(ref - 1).toNat]? = some t := by
  unfold Hp.Hs.thing at h
  split at h
  · exact ⟨by assumption, (List.getElem?_eq_some_iff.1 h).1, h⟩
  · cases h
theorem isArr_flat (s : Hp.Hs) (ref : Int) : isArr s.flat ref = (match s.thing ref with | some t => decide (t.cl = -1) | none => false) := by
  unfold isArr
  rw [clsOf_flat]
  cases s.thing ref <;> rfl
theorem isObj_flat (s : Hp.Hs) (ref : Int) : isObj s.flat ref = (match s.thing ref with | some t => decide (t.cl ≠ -1) | none => false) := by
  unfold isObj
  rw [clsOf_flat]
  cases s.thing ref <;> rfl
theorem rowV_thing {w : World} {base : Nat} {H : HV} {s : Hp.Hs} (h : Rep w base H s.flat) (ok : s.Ok) {k : Nat} {t : Hp.Th} (hk : s.l[k]? = some t) :
    Calls Try.prog 47 #[.pointer (some ⟨H.ib, 4, none⟩), .int .i64 (k : Int)] w (RowPost H.d (loV s k) t.vs.length w) := by
  obtain ⟨s1, s2, s3, s4, s5, s6, s7⟩ := ok.sizes
  have hkl := (List.getElem?_eq_some_iff.1 hk).1
  have hr : (s.l.map (·.vs))[k]? = some t.vs := by rw [List.getElem?_map, hk]; rfl
  have hm : k < (s.l.map (·.vs)).length := by simpa using hkl
  have h4 := Hp.take_le (s.l.map (·.vs)) (k + 1)
  have h := rowV_any h k (loV s k) (loV s k + t.vs.length) (by omega) (by omega) (fun e => by subst e; simp [loV]) (fun e => by
    show (Hp.ends (s.l.map (·.vs)))[k - 1]? = _
    rw [Hp.ends_at (by omega), show k - 1 + 1 = k by omega]; rfl) (by
    show (Hp.ends (s.l.map (·.vs)))[k]? = _
    rw [Hp.ends_at hm, Hp.take_succ hr]; rfl) (by omega) (by
    rw [Hp.take_succ hr] at h4
    exact h4)
  rw [Nat.add_sub_cancel_left] at h
  exact h
theorem rowT_thing {w : World} {base : Nat} {H : HV} {s : Hp.Hs} (h : Rep w base H s.flat) (ok : s.Ok) {k : Nat} {t : Hp.Th} (hk : s.l[k]? = some t) :
    Calls Try.prog 60 #[.pointer (some ⟨H.ib, 2, none⟩), .int .i64 (k : Int)] w (RowPost H.b (loT s k) t.ts.length w) := by
  obtain ⟨s1, s2, s3, s4, s5, s6, s7⟩ := ok.sizes
  have hkl := (List.getElem?_eq_some_iff.1 hk).1
  have hr : (s.l.map (·.ts))[k]? = some t.ts := by rw [List.getElem?_map, hk]; rfl
  have hm : k < (s.l.map (·.ts)).length := by simpa using hkl
  have h4 := Hp.take_le (s.l.map (·.ts)) (k + 1)
  have h := rowT_any h k (loT s k) (loT s k + t.ts.length) (by omega) (by omega) (fun e => by subst e; simp [loT]) (fun e => by
    show (Hp.ends (s.l.map (·.ts)))[k - 1]? = _
    rw [Hp.ends_at (by omega), show k - 1 + 1 = k by omega]; rfl) (by
    show (Hp.ends (s.l.map (·.ts)))[k]? = _
    rw [Hp.ends_at hm, Hp.take_succ hr]; rfl) (by omega) (by
    rw [Hp.take_succ hr] at h4
    exact h4)
  rw [Nat.add_sub_cancel_left] at h
  exact h
/-- A thing's types, its values, in memory. -/
theorem types_at {w : World} {base : Nat} {H : HV} {s : Hp.Hs} (h : Rep w base H s.flat) {k j g : Nat} {t : Hp.Th} {x : Hp.Ty} (hk : s.l[k]? = some t) (hj : t.ts[j]? = some x) (hg : H.b.ownBlock = some g) : w.cell? ⟨g, loT s k * 2 + j * 2, none⟩ = some (.int .i64 x.k) ∧ w.cell? ⟨g, loT s k * 2 + j * 2 + 1, none⟩ = some (.string x.s) := by
  have hr : (s.l.map (·.ts))[k]? = some t.ts := by rw [List.getElem?_map, hk]; rfl
  have hf := Hp.flat_at2 hr (List.getElem?_eq_some_iff.1 hj).1
  rw [hj] at hf
  obtain ⟨h1, h2⟩ := tL_at hf
  obtain ⟨hc, -⟩ := own_at h.ob hg
  have e : ((s.l.map (·.ts)).take k).flatten.length = loT s k := rfl
  rw [e, Nat.add_mul] at h1 h2
  exact ⟨hc _ _ h1, hc _ _ h2⟩
theorem vals_at {w : World} {base : Nat} {H : HV} {s : Hp.Hs} (h : Rep w base H s.flat) {k j g : Nat} {t : Hp.Th} {x : Hp.Vl} (hk : s.l[k]? = some t) (hj : t.vs[j]? = some x) (hg : H.d.ownBlock = some g) : w.cell? ⟨g, loV s k * 2 + j * 2, none⟩ = some (.int .i64 x.k) ∧ w.cell? ⟨g, loV s k * 2 + j * 2 + 1, none⟩ = some (.int .i64 x.n) ∧ ∀ i, w.frozen? ⟨g, i, none⟩ = false := by
  have hr : (s.l.map (·.vs))[k]? = some t.vs := by rw [List.getElem?_map, hk]; rfl
  have hf := Hp.flat_at2 hr (List.getElem?_eq_some_iff.1 hj).1
  rw [hj] at hf
  obtain ⟨h1, h2⟩ := vL_at hf
  obtain ⟨hc, hfz⟩ := own_at h.od hg
  have e : ((s.l.map (·.vs)).take k).flatten.length = loV s k := rfl
  rw [e, Nat.add_mul] at h1 h2
  exact ⟨hc _ _ h1, hc _ _ h2, hfz⟩
theorem putV_thing {w : World} {base : Nat} {H : HV} {s : Hp.Hs} (h : Rep w base H s.flat) {k j g : Nat} {t : Hp.Th} (v : Hp.Vl) (hk : s.l[k]? = some t) (hj : j < t.vs.length) (hg : H.d.ownBlock = some g) :
    Went w ((w.setCell ⟨g, loV s k * 2 + j * 2, none⟩ (.int .i64 v.k)).setCell ⟨g, loV s k * 2 + j * 2 + 1, none⟩ (.int .i64 v.n)) base H H ({ s with l := s.l.set k { t with vs := t.vs.set j v } } : Hp.Hs).flat := by
  have hr : (s.l.map (·.vs))[k]? = some t.vs := by rw [List.getElem?_map, hk]; rfl
  have e : ((s.l.map (·.vs)).take k).flatten.length = loV s k := rfl
  have hlt : loV s k + j < (s.l.map (·.vs)).flatten.length := by
    have h4 := Hp.take_le (s.l.map (·.vs)) (k + 1)
    rw [Hp.take_succ hr, e] at h4
    omega
  have hp := h.putV (j := loV s k + j) hg hlt v
  rw [Nat.add_mul] at hp
  have hst : ({ s with l := s.l.set k { t with vs := t.vs.set j v } } : Hp.Hs).flat = { s.flat with vc := s.flat.vc.set (loV s k + j) v } := by
    have hkl := (List.getElem?_eq_some_iff.1 hk).1
    have hkk := (List.getElem?_eq_some_iff.1 hk).2
    have h1 : (s.l.set k { t with vs := t.vs.set j v }).map (·.cl) = s.l.map (·.cl) := by
      rw [List.map_set]
      exact set_self (by rw [List.getElem?_map, hk]; rfl)
    have h2 : (s.l.set k { t with vs := t.vs.set j v }).map (·.ts) = s.l.map (·.ts) := by
      rw [List.map_set]
      exact set_self (by rw [List.getElem?_map, hk]; rfl)
    have h3 : (s.l.set k { t with vs := t.vs.set j v }).map (·.vs) = (s.l.map (·.vs)).set k (t.vs.set j v) := by rw [List.map_set]
    unfold Hp.Hs.flat
    simp only [h1, h2, h3]
    rw [← Hp.flat_set hr hj, Hp.ends_set hr (List.length_set ..)]
    rfl
  rw [hst]
  exact hp
end Go.Proofs.Ythembnakeikmeaa
namespace Go.Proofs.Ythembnakeikmeaa
open Go Go.RowKit

theorem isArr_yes {s : Hp.Hs} {ref : Int} {t : Hp.Th} (h : s.thing ref = some t) (hc : t.cl = -1) : isArr s.flat ref = true := by rw [isArr_flat, h]; simp [hc]
theorem isArr_no {s : Hp.Hs} {ref : Int} (h : ∀ t, s.thing ref = some t → t.cl ≠ -1) : isArr s.flat ref = false := by
  rw [isArr_flat]
  cases ht : s.thing ref with
  | none => rfl
  | some t => simpa using h t ht
theorem isObj_yes {s : Hp.Hs} {ref : Int} {t : Hp.Th} (h : s.thing ref = some t) (hc : t.cl ≠ -1) : isObj s.flat ref = true := by rw [isObj_flat, h]; simp [hc]
theorem isObj_no {s : Hp.Hs} {ref : Int} (h : ∀ t, s.thing ref = some t → t.cl = -1) : isObj s.flat ref = false := by
  rw [isObj_flat]
  cases ht : s.thing ref with
  | none => rfl
  | some t => simpa using h t ht
theorem BX.set {w : World} {b : Nat} {cs : Array Value} {T : TypeId} (h : BX w b cs T) (i : Nat) (u : Value) : BX (w.setCell ⟨b, i, none⟩ u) b (cs.setIfInBounds i u) T := box_set h i u
set_option maxRecDepth 100000 in
theorem elem_any {w : World} {base : Nat} {H : HV} {s : Hp.Hs} (h : Rep w base H s.flat) (ok : s.Ok) {k : Nat} {t : Hp.Th} {x : Hp.Ty} (hk : s.l[k]? = some t) (hx : t.ts = [x]) :
    Calls Try.prog 50 #[.pointer (some ⟨H.ib, 0, none⟩), .int .i64 ((k : Int) + 1)] w fun e w' => e = .returned (tA x) ∧ Below w.heap.size w w' := by
  have hkl := (List.getElem?_eq_some_iff.1 hk).1
  obtain ⟨s1, s2, s3, s4, s5, s6, s7⟩ := ok.sizes
  have hcl := flat_cs s
  have hkb : k ≤ 1048576 := by omega
  have HRw := hid (fun X (b : Below w.heap.size w X) => rowT_thing (h.below b) ok hk)
  have HTy := hid (fun X (b : Below w.heap.size w X) g hg => types_at (h.below b) hk (j := 0) (x := x) (by rw [hx]; rfl) (g := g) hg)
  rw [hx] at HRw
  unfold RowPost Sub at HRw
  unfold tA
  obtain ⟨ib, hib⟩ : ∃ ib, ib = H.ib := ⟨_, rfl⟩
  rw [← hib] at HRw
  rw [← hib]
  have hgen := h.ib_lt
  rw [← hib] at hgen
  clear h hk hx hcl s1 s2 s3 s4 s5 s6 s7 hkl hib
  go_enter Try.func50, Try.ntmps50
  go_wp2_with fail
  refine (HRw.out _ (by repeat' first | with_reducible exact Below.refl _ _ | with_reducible assumption | with_reducible refine belows_drewN ?_ _ | with_reducible refine Below.drew ?_ | with_reducible refine Below.setCell ?_ ?_ _ | with_reducible refine Below.alloc ?_ ?_ _ | omega | (simp; done) | (simp; omega))).mono ?_
  rintro e w1 ⟨v, rfl, ⟨a, c, rfl, hc, hs⟩, hb⟩
  obtain ⟨g, hg, rfl⟩ := hs (by simp)
  have B1 : Below w.heap.size w w1 := belows (B := w.heap.size) (a := w) (by repeat' first | with_reducible exact Below.refl _ _ | with_reducible assumption | with_reducible refine belows_drewN ?_ _ | with_reducible refine Below.drew ?_ | with_reducible refine Below.setCell ?_ ?_ _ | with_reducible refine Below.alloc ?_ ?_ _ | omega | (simp; done) | (simp; omega)) hb (by simp)
  obtain ⟨y0, y1⟩ := HTy.out _ B1 g hg
  simp only [Nat.zero_mul, Nat.add_zero] at y0 y1
  have hz := hb.size
  have bx := (BX.new w #[.int .i64 0, .string ⟨#[]⟩] 33).below hb
  have c0 := bx.frozen 0
  have c1 := bx.frozen 1
  have d0 := bx.cell 0
  have d1 := bx.cell 1
  simp at d0 d1
  have hz1 := bx.sz
  have HX := hid bx
  clear bx
  go_wp2
  exact bodyPost_ret (v := .agg #[.int .i64 x.k, .string x.s]) (by have e0 := ((HX.out.set 0 (.int .i64 x.k)).set 1 (.string x.s)).cell 0; have e1 := ((HX.out.set 0 (.int .i64 x.k)).set 1 (.string x.s)).cell 1; simp at e0 e1; simp [results, Try.results50, go_sem, e0, e1]) rfl ⟨rfl, (by repeat' first | with_reducible exact Below.refl _ _ | with_reducible assumption | with_reducible refine belows_drewN ?_ _ | with_reducible refine Below.drew ?_ | with_reducible refine Below.setCell ?_ ?_ _ | with_reducible refine Below.alloc ?_ ?_ _ | omega | (simp; done) | (simp; omega))⟩
def placeNone : Value := .agg #[.int .i64 0, .string ⟨#[]⟩, .pointer none]
set_option maxRecDepth 100000 in
theorem element_ref {w : World} {base : Nat} {H : HV} {s : Hp.Hs} (h : Rep w base H s.flat) (ok : s.Ok) (ref i : Int) (hr : -9223372036854775808 ≤ ref ∧ ref ≤ 9223372036854775807) (hn : isArr s.flat ref = false) :
    Calls Try.prog 41 #[.pointer (some ⟨H.ib, 0, none⟩), .int .i64 ref, .int .i64 i] w fun e w' => e = .returned (.tuple #[placeNone, .int .i64 60]) ∧ Below w.heap.size w w' := by
  obtain ⟨s1, s2, s3, s4, s5, s6, s7⟩ := ok.sizes
  have HI := hid (fun X (b : Below w.heap.size w X) => isArray_any (h.below b) ref hr (by omega))
  rw [hn] at HI
  unfold placeNone
  clear h hn s1 s2 s3 s4 s5 s6 s7
  go_enter Try.func41, Try.ntmps41
  go_wp2_with fail
  refine (HI.out _ (by repeat' first | with_reducible exact Below.refl _ _ | with_reducible assumption | with_reducible refine belows_drewN ?_ _ | with_reducible refine Below.drew ?_ | with_reducible refine Below.setCell ?_ ?_ _ | with_reducible refine Below.alloc ?_ ?_ _ | omega | (simp; done) | (simp; omega))).mono ?_
  rintro e w1 ⟨rfl, hb⟩
  have B1 : Below w.heap.size w w1 := belows (B := w.heap.size) (a := w) (by repeat' first | with_reducible exact Below.refl _ _ | with_reducible assumption | with_reducible refine belows_drewN ?_ _ | with_reducible refine Below.drew ?_ | with_reducible refine Below.setCell ?_ ?_ _ | with_reducible refine Below.alloc ?_ ?_ _ | omega | (simp; done) | (simp; omega)) hb (by simp)
  have hz := hb.size
  have bx := (BX.new w #[.int .i64 0, .string ⟨#[]⟩, .pointer none] 92).below hb
  have c0 := bx.frozen 0
  have c1 := bx.frozen 1
  have c2 := bx.frozen 2
  have d0 := bx.cell 0
  have d1 := bx.cell 1
  have d2 := bx.cell 2
  simp at d0 d1 d2
  have HX := hid bx
  clear bx
  go_wp2
  exact bodyPost_ret (v := .tuple #[.agg #[.int .i64 0, .string ⟨#[]⟩, .pointer none], .int .i64 60]) (by have e3 := (((HX.out.set 0 (.int .i64 0)).set 1 (.string ⟨#[]⟩)).set 2 (.pointer none)); have e0 := e3.cell 0; have e1 := e3.cell 1; have e2 := e3.cell 2; simp at e0 e1 e2; simp [results, Try.results41, go_sem, e0, e1, e2]) rfl ⟨rfl, (by repeat' first | with_reducible exact Below.refl _ _ | with_reducible assumption | with_reducible refine belows_drewN ?_ _ | with_reducible refine Below.drew ?_ | with_reducible refine Below.setCell ?_ ?_ _ | with_reducible refine Below.alloc ?_ ?_ _ | omega | (simp; done) | (simp; omega))⟩
set_option maxRecDepth 100000 in
set_option maxHeartbeats 1000000 in
theorem element_idx {w : World} {base : Nat} {H : HV} {s : Hp.Hs} (h : Rep w base H s.flat) (ok : s.Ok) {k : Nat} {t : Hp.Th} (hk : s.l[k]? = some t) (hc : t.cl = -1) (i : Int) (hi : i < 0 ∨ (t.vs.length : Int) ≤ i) :
    Calls Try.prog 41 #[.pointer (some ⟨H.ib, 0, none⟩), .int .i64 ((k : Int) + 1), .int .i64 i] w fun e w' => e = .returned (.tuple #[placeNone, .int .i64 61]) ∧ Below w.heap.size w w' := by
  have hkl := (List.getElem?_eq_some_iff.1 hk).1
  obtain ⟨s1, s2, s3, s4, s5, s6, s7⟩ := ok.sizes
  have hcl := flat_cs s
  have hkb : k ≤ 1048576 := by omega
  have hth : s.thing ((k : Int) + 1) = some t := by unfold Hp.Hs.thing; rw [if_pos (by omega), show ((k : Int) + 1 - 1).toNat = k by omega]; exact hk
  have HI := hid (fun X (b : Below w.heap.size w X) => isArray_any (h.below b) ((k : Int) + 1) (by omega) (by omega))
  rw [isArr_yes hth hc] at HI
  have HRw := hid (fun X (b : Below w.heap.size w X) => rowV_thing (h.below b) ok hk)
  unfold RowPost Sub at HRw
  unfold placeNone
  obtain ⟨ib, hib⟩ : ∃ ib, ib = H.ib := ⟨_, rfl⟩
  rw [← hib] at HRw HI ⊢
  have hgen := h.ib_lt
  rw [← hib] at hgen
  obtain ⟨n, hn⟩ : ∃ n, n = t.vs.length := ⟨_, rfl⟩
  rw [← hn] at hi HRw
  clear h hk hc hcl hth s1 s2 s3 s4 s5 s6 s7 hkl hib hn
  rcases hi with hi | hi
  all_goals
    go_enter Try.func41, Try.ntmps41
    go_wp2_with fail
    refine (HI.out _ (by repeat' first | with_reducible exact Below.refl _ _ | with_reducible assumption | with_reducible refine belows_drewN ?_ _ | with_reducible refine Below.drew ?_ | with_reducible refine Below.setCell ?_ ?_ _ | with_reducible refine Below.alloc ?_ ?_ _ | omega | (simp; done) | (simp; omega))).mono ?_
    rintro e w1 ⟨rfl, hb⟩
    have B1 : Below w.heap.size w w1 := belows (B := w.heap.size) (a := w) (by repeat' first | with_reducible exact Below.refl _ _ | with_reducible assumption | with_reducible refine belows_drewN ?_ _ | with_reducible refine Below.drew ?_ | with_reducible refine Below.setCell ?_ ?_ _ | with_reducible refine Below.alloc ?_ ?_ _ | omega | (simp; done) | (simp; omega)) hb (by simp)
    have hz := hb.size
    have bx1 := (BX.new w #[.int .i64 0, .string ⟨#[]⟩, .pointer none] 92).below hb
    go_wp2_with fail
    refine (HRw.out _ B1).mono ?_
    rintro e w2 ⟨v, rfl, ⟨a, c, rfl, hcc, hs⟩, hb2⟩
    have B2 := belows B1 hb2 B1.size
    have bx := bx1.below hb2
    have c0 := bx.frozen 0
    have c1 := bx.frozen 1
    have c2 := bx.frozen 2
    have d0 := bx.cell 0
    have d1 := bx.cell 1
    have d2 := bx.cell 2
    simp at d0 d1 d2
    have HX := hid bx
    clear bx bx1 hs
    go_wp2
    exact bodyPost_ret (v := .tuple #[.agg #[.int .i64 0, .string ⟨#[]⟩, .pointer none], .int .i64 61]) (by have e3 := (((HX.out.set 0 (.int .i64 0)).set 1 (.string ⟨#[]⟩)).set 2 (.pointer none)); have e0 := e3.cell 0; have e1 := e3.cell 1; have e2 := e3.cell 2; simp at e0 e1 e2; simp [results, Try.results41, go_sem, e0, e1, e2]) rfl ⟨rfl, (by repeat' first | with_reducible exact Below.refl _ _ | with_reducible assumption | with_reducible refine belows_drewN ?_ _ | with_reducible refine Below.drew ?_ | with_reducible refine Below.setCell ?_ ?_ _ | with_reducible refine Below.alloc ?_ ?_ _ | omega | (simp; done) | (simp; omega))⟩
/-- A place: its type, where its value stands. -/
def placeAt (x : Hp.Ty) (g o : Nat) : Value := .agg #[.int .i64 x.k, .string x.s, .pointer (some ⟨g, o, none⟩)]
def PlPost (H : HV) (x : Hp.Ty) (o : Nat) (w : World) (e : Ending) (w' : World) : Prop := ∃ g, H.d.ownBlock = some g ∧ e = .returned (.tuple #[placeAt x g o, .int .i64 0]) ∧ Below w.heap.size w w'
set_option maxRecDepth 100000 in
set_option maxHeartbeats 1000000 in
theorem element_ok {w : World} {base : Nat} {H : HV} {s : Hp.Hs} (h : Rep w base H s.flat) (ok : s.Ok) {k : Nat} {t : Hp.Th} {x : Hp.Ty} (hk : s.l[k]? = some t) (hc : t.cl = -1) (hx : t.ts = [x]) (i : Nat) (hi : i < t.vs.length) :
    Calls Try.prog 41 #[.pointer (some ⟨H.ib, 0, none⟩), .int .i64 ((k : Int) + 1), .int .i64 (i : Int)] w (PlPost H x (loV s k * 2 + i * 2) w) := by
  have hkl := (List.getElem?_eq_some_iff.1 hk).1
  obtain ⟨s1, s2, s3, s4, s5, s6, s7⟩ := ok.sizes
  have hcl := flat_cs s
  have hkb : k ≤ 1048576 := by omega
  have hvl : t.vs.length ≤ 1048576 := by
    have hr : (s.l.map (·.vs))[k]? = some t.vs := by rw [List.getElem?_map, hk]; rfl
    have h4 := Hp.take_le (s.l.map (·.vs)) (k + 1)
    rw [Hp.take_succ hr] at h4
    have h5 : s.flat.vc.length = (s.l.map (·.vs)).flatten.length := rfl
    omega
  have hth : s.thing ((k : Int) + 1) = some t := by unfold Hp.Hs.thing; rw [if_pos (by omega), show ((k : Int) + 1 - 1).toNat = k by omega]; exact hk
  have HI := hid (fun X (b : Below w.heap.size w X) => isArray_any (h.below b) ((k : Int) + 1) (by omega) (by omega))
  rw [isArr_yes hth hc] at HI
  have HRw := hid (fun X (b : Below w.heap.size w X) => rowV_thing (h.below b) ok hk)
  have HEl := hid (fun X (b : Below w.heap.size w X) => elem_any (h.below b) ok hk hx)
  unfold RowPost Sub at HRw
  unfold tA at HEl
  unfold PlPost placeAt
  obtain ⟨ib, hib⟩ : ∃ ib, ib = H.ib := ⟨_, rfl⟩
  rw [← hib] at HRw HI HEl ⊢
  have hgen := h.ib_lt
  rw [← hib] at hgen
  obtain ⟨n, hn⟩ : ∃ n, n = t.vs.length := ⟨_, rfl⟩
  rw [← hn] at hi hvl HRw
  obtain ⟨lo, hlo⟩ : ∃ lo, lo = loV s k := ⟨_, rfl⟩
  rw [← hlo] at HRw ⊢
  clear h hk hc hx hcl hth s1 s2 s3 s4 s5 s6 s7 hkl hib hn hlo
  go_enter Try.func41, Try.ntmps41
  go_wp2_with fail
  refine (HI.out _ (by repeat' first | with_reducible exact Below.refl _ _ | with_reducible assumption | with_reducible refine belows_drewN ?_ _ | with_reducible refine Below.drew ?_ | with_reducible refine Below.setCell ?_ ?_ _ | with_reducible refine Below.alloc ?_ ?_ _ | omega | (simp; done) | (simp; omega))).mono ?_
  rintro e w1 ⟨rfl, hb⟩
  have B1 : Below w.heap.size w w1 := belows (B := w.heap.size) (a := w) (by repeat' first | with_reducible exact Below.refl _ _ | with_reducible assumption | with_reducible refine belows_drewN ?_ _ | with_reducible refine Below.drew ?_ | with_reducible refine Below.setCell ?_ ?_ _ | with_reducible refine Below.alloc ?_ ?_ _ | omega | (simp; done) | (simp; omega)) hb (by simp)
  have hz := hb.size
  have bx1 := (BX.new w #[.int .i64 0, .string ⟨#[]⟩, .pointer none] 92).below hb
  go_wp2_with fail
  refine (HRw.out _ B1).mono ?_
  rintro e w2 ⟨v, rfl, ⟨a, c, rfl, hcc, hs⟩, hb2⟩
  obtain ⟨g, hg, rfl⟩ := hs (by omega)
  have B2 := belows B1 hb2 B1.size
  have bx := hid (bx1.below hb2)
  have HG := hid hg
  clear bx1 hs hb2 hb hg
  go_wp2
  have cfE := fun (u v : Value) (w : World) => (show (callFunc 50 #[u, v]).run Try.prog w = .ok (.enter 50 #[u, v]) w by kernel_rfl)
  go_region_law (refine Kit.step_call2 rfl 50 (.tmp 29) (.tmp 30) 57 2 rfl _ _ rfl rfl (cfE _ _ _) _ (HEl.out _ (by repeat' first | with_reducible exact Below.refl _ _ | with_reducible assumption | with_reducible refine belows_drewN ?_ _ | with_reducible refine Below.drew ?_ | with_reducible refine Below.setCell ?_ ?_ _ | with_reducible refine Below.alloc ?_ ?_ _ | omega | (simp; done) | (simp; omega))) ?_; rintro e w3 ⟨rfl, hb3⟩; refine ⟨_, rfl, ?_⟩; have B3 : Below w.heap.size w w3 := (belows (B := w.heap.size) (a := w) (by repeat' first | with_reducible exact Below.refl _ _ | with_reducible assumption | with_reducible refine belows_drewN ?_ _ | with_reducible refine Below.drew ?_ | with_reducible refine Below.setCell ?_ ?_ _ | with_reducible refine Below.alloc ?_ ?_ _ | omega | (simp; done) | (simp; omega)) hb3 (by first | exact B2.size | simpa using B2.size)); have bx3 := (bx.out.below (show Below w2.heap.size w2 w3 from (by first | exact hb3 | exact belows (B := w2.heap.size) (a := w2) (by repeat' first | with_reducible exact Below.refl _ _ | with_reducible assumption | with_reducible refine belows_drewN ?_ _ | with_reducible refine Below.drew ?_ | with_reducible refine Below.setCell ?_ ?_ _ | with_reducible refine Below.alloc ?_ ?_ _ | omega | (simp; done) | (simp; omega)) hb3 (by simp)))); have c0 := bx3.frozen 0; have c1 := bx3.frozen 1; have c2 := bx3.frozen 2; have d0 := bx3.cell 0; have d1 := bx3.cell 1; have d2 := bx3.cell 2; simp at d0 d1 d2; have HX := hid bx3; clear bx3 hb3)
  all_goals
    go_wp2
    refine bodyPost_ret (v := .tuple #[.agg #[.int .i64 x.k, .string x.s, .pointer (some ⟨g, lo * 2 + i * 2, none⟩)], .int .i64 0]) (by have e3 := (((HX.out.set 0 (.int .i64 x.k)).set 1 (.string x.s)).set 2 (.pointer (some ⟨g, lo * 2 + i * 2, none⟩))); have e0 := e3.cell 0; have e1 := e3.cell 1; have e2 := e3.cell 2; simp at e0 e1 e2; simp [results, Try.results41, go_sem, e0, e1, e2]) rfl ⟨g, HG.out, rfl, (by repeat' first | with_reducible exact Below.refl _ _ | with_reducible assumption | with_reducible refine belows_drewN ?_ _ | with_reducible refine Below.drew ?_ | with_reducible refine Below.setCell ?_ ?_ _ | with_reducible refine Below.alloc ?_ ?_ _ | omega | (simp; done) | (simp; omega))⟩
end Go.Proofs.Ythembnakeikmeaa
namespace Go.Proofs.Ythembnakeikmeaa
open Go Go.RowKit

namespace Hp
theorem el_ref {s : Hs} {ref i : Int} {v : Vl} (h : ∀ t, s.thing ref = some t → t.cl ≠ -1) : s.el ref i = (V0, 60) ∧ s.st ref i v = (s, 60) := by
  have h1 : s.el ref i = (V0, 60) := by
    unfold Hs.el
    cases ht : s.thing ref with
    | none => rfl
    | some t => simp [h t ht]
  exact ⟨h1, by unfold Hs.st; rw [h1]; simp⟩
theorem el_idx {s : Hs} {ref i : Int} {v : Vl} {t : Th} (h : s.thing ref = some t) (hc : t.cl = -1) (hi : i < 0 ∨ (t.vs.length : Int) ≤ i) : s.el ref i = (V0, 61) ∧ s.st ref i v = (s, 61) := by
  have h1 : s.el ref i = (V0, 61) := by
    unfold Hs.el
    rw [h]
    simp only [if_pos hc]
    split
    · rw [List.getElem?_eq_none (by omega)]
    · rfl
  exact ⟨h1, by unfold Hs.st; rw [h1]; simp⟩
theorem el_ok {s : Hs} {ref : Int} {i : Nat} {v u : Vl} {t : Th} {x : Ty} (h : s.thing ref = some t) (hc : t.cl = -1) (hx : t.ts = [x]) (hi : t.vs[i]? = some u) :
    s.el ref i = (u, 0) ∧ s.st ref i v = (if fitsOf x v = true then ({ s with l := s.l.set (ref - 1).toNat { t with vs := t.vs.set i v } }, 0) else (s, 62)) := by
  have h1 : s.el ref i = (u, 0) := by
    unfold Hs.el
    rw [h]
    simp only [if_pos hc]
    rw [if_pos (by omega), Int.toNat_natCast, hi]
  refine ⟨h1, ?_⟩
  unfold Hs.st Hs.put
  rw [h1]
  simp only [h, hx, List.headD_cons, ne_eq, not_true_eq_false, if_false, Int.toNat_natCast]
theorem ok_one {s : Hs} (h : s.Ok) {t : Th} (ht : t ∈ s.l) (hc : t.cl = -1) : ∃ x, t.ts = [x] := by
  rcases h.th t ht with ⟨-, h1⟩ | ⟨h1, -⟩
  · match hts : t.ts, h1 with
    | [x], _ => exact ⟨x, rfl⟩
  · omega
theorem ok_put {s : Hs} (h : s.Ok) {k j : Nat} {t : Th} (hk : s.l[k]? = some t) (v : Vl) : (⟨s.lim, s.l.set k { t with vs := t.vs.set j v }⟩ : Hs).Ok := by
  have hmem := List.mem_of_getElem? hk
  refine ⟨h.lim, ?_, fun x hx => ?_⟩
  · have hu := h.used
    have hr : (s.l.map (·.vs))[k]? = some t.vs := by rw [List.getElem?_map, hk]; rfl
    have e : ((s.l.set k { t with vs := t.vs.set j v }).map (·.vs)).flatten.length = (s.l.map (·.vs)).flatten.length := by
      rw [List.map_set]
      simp only [List.length_flatten, List.map_set]
      congr 1
      exact set_self (by rw [List.getElem?_map, hr]; simp)
    unfold Hs.used at hu ⊢
    rw [e, List.length_set]
    exact hu
  · rcases List.mem_or_eq_of_mem_set hx with hx | rfl
    · exact h.th x hx
    · rcases h.th t hmem with h1 | ⟨h1, h2⟩
      · exact .inl h1
      · exact .inr ⟨h1, by simpa using h2⟩
end Hp
set_option maxRecDepth 100000 in
theorem put_yes (x : Hp.Ty) (v : Hp.Vl) (g o : Nat) (w : World) {u0 u1 : Value} (h0 : w.cell? ⟨g, o, none⟩ = some u0) (h1 : w.cell? ⟨g, o + 1, none⟩ = some u1) (f0 : w.frozen? ⟨g, o, none⟩ = false) (f1 : w.frozen? ⟨g, o + 1, none⟩ = false) (hg : g < w.heap.size) (hf : fitsOf x v = true) :
    Calls Try.prog 42 #[placeAt x g o, vA v] w fun e w' => e = .returned (.int .i64 0) ∧ ∃ w1, Below w.heap.size w w1 ∧ w' = (w1.setCell ⟨g, o, none⟩ (.int .i64 v.k)).setCell ⟨g, o + 1, none⟩ (.int .i64 v.n) := by
  have HF := hid (fun W => fits2_any x v W)
  rw [hf] at HF
  unfold placeAt vA
  unfold tA vA at HF
  obtain ⟨xk, xs⟩ := x
  obtain ⟨vk, vn⟩ := v
  dsimp only at *
  clear hf
  go_enter Try.func42, Try.ntmps42
  go_wp2_with fail
  refine (HF.out _).mono ?_
  rintro e w1 ⟨rfl, hb⟩
  have B1 : Below w.heap.size w w1 := belows (B := w.heap.size) (a := w) (by repeat' first | with_reducible exact Below.refl _ _ | with_reducible assumption | with_reducible refine belows_drewN ?_ _ | with_reducible refine Below.drew ?_ | with_reducible refine Below.setCell ?_ ?_ _ | with_reducible refine Below.alloc ?_ ?_ _ | omega | (simp; done) | (simp; omega)) hb (by simp; omega)
  have p0 := (B1.cell (p := ⟨g, o, none⟩) hg).trans h0
  have p1 := (B1.cell (p := ⟨g, o + 1, none⟩) hg).trans h1
  have q0 := (B1.frozen (p := ⟨g, o, none⟩) hg).trans f0
  have q1 := (B1.frozen (p := ⟨g, o + 1, none⟩) hg).trans f1
  have bx := ((BX.new w #[.int .i64 xk, .string xs, .pointer (some ⟨g, o, none⟩)] 92).below ((Below.refl _ _).alloc (Nat.le_refl _) (.cells #[.int .i64 vk, .int .i64 vn] 35))).below hb
  have d2 := bx.cell 2
  have by_ := (BX.new (w.alloc (.cells #[.int .i64 xk, .string xs, .pointer (some ⟨g, o, none⟩)] 92)) #[.int .i64 vk, .int .i64 vn] 35).below hb
  rw [World.size_alloc] at by_
  have d3 := by_.cell 0
  have d4 := by_.cell 1
  simp at d2 d3 d4
  clear bx by_ h0 h1 f0 f1 hb
  go_wp2
  go_ret
  exact ⟨rfl, w1, B1, rfl⟩
set_option maxRecDepth 100000 in
theorem put_no (x : Hp.Ty) (v : Hp.Vl) (g o : Nat) (w : World) (hf : fitsOf x v = false) :
    Calls Try.prog 42 #[placeAt x g o, vA v] w fun e w' => e = .returned (.int .i64 62) ∧ Below w.heap.size w w' := by
  have HF := hid (fun W => fits2_any x v W)
  rw [hf] at HF
  unfold placeAt vA
  unfold tA vA at HF
  obtain ⟨xk, xs⟩ := x
  obtain ⟨vk, vn⟩ := v
  dsimp only at *
  clear hf
  go_enter Try.func42, Try.ntmps42
  go_wp2_with fail
  refine (HF.out _).mono ?_
  rintro e w1 ⟨rfl, hb⟩
  have B1 : Below w.heap.size w w1 := belows (B := w.heap.size) (a := w) (by repeat' first | with_reducible exact Below.refl _ _ | with_reducible assumption | with_reducible refine belows_drewN ?_ _ | with_reducible refine Below.drew ?_ | with_reducible refine Below.setCell ?_ ?_ _ | with_reducible refine Below.alloc ?_ ?_ _ | omega | (simp; done) | (simp; omega)) hb (by simp; omega)
  go_wp2
  go_ret
  exact ⟨rfl, B1⟩
end Go.Proofs.Ythembnakeikmeaa
namespace Go.Proofs.Ythembnakeikmeaa
open Go Go.RowKit

set_option maxRecDepth 100000 in
set_option maxHeartbeats 1000000 in
theorem Store_any {w : World} {base : Nat} {H : HV} {s : Hp.Hs} (h : Rep w base H s.flat) (ok : s.Ok) (ref i : Int) (v : Hp.Vl) (hr : -9223372036854775808 ≤ ref ∧ ref ≤ 9223372036854775807) :
    Calls Try.prog 15 #[.pointer (some ⟨H.hb, 0, none⟩), .int .i64 ref, .int .i64 i, vA v] w fun e w' => e = .returned (.int .i64 (s.st ref i v).2) ∧ Went w w' base H H (s.st ref i v).1.flat := by
  have HM := hid (fun X (k : Below w.heap.size w X) => isMade_any (h.below k))
  have HR := hid h
  have hgen := h.hb_lt
  obtain ⟨k0, -⟩ := h.cells
  have HP := hid (fun X (k : Below w.heap.size w X) => Went.start (base := base) k (Went.refl (h.below k)))
  obtain ⟨hb, hhb⟩ : ∃ hb, hb = H.hb := ⟨_, rfl⟩
  by_cases hn : ∀ t, s.thing ref = some t → t.cl ≠ -1
  · obtain ⟨-, e2⟩ := Hp.el_ref (i := i) (v := v) hn
    rw [e2]
    have HE := hid (fun X (k : Below w.heap.size w X) => element_ref (h.below k) ok ref i hr (isArr_no hn))
    obtain ⟨ib, hib⟩ : ∃ ib, ib = H.ib := ⟨_, rfl⟩
    rw [← hhb] at hgen k0 HM ⊢
    rw [← hib] at k0 HE
    unfold placeNone at HE
    unfold vA
    clear h hn e2 hib hhb
    go_enter Try.func15, Try.ntmps15
    go_wp2_with fail
    refine (HM.out _ (by repeat' first | with_reducible exact Below.refl _ _ | with_reducible assumption | with_reducible refine belows_drewN ?_ _ | with_reducible refine Below.drew ?_ | with_reducible refine Below.setCell ?_ ?_ _ | with_reducible refine Below.alloc ?_ ?_ _ | omega | (simp; done) | (simp; omega))).mono ?_
    rintro e w1 ⟨rfl, rfl⟩
    go_wp2_with fail
    refine (HE.out _ (by repeat' first | with_reducible exact Below.refl _ _ | with_reducible assumption | with_reducible refine belows_drewN ?_ _ | with_reducible refine Below.drew ?_ | with_reducible refine Below.setCell ?_ ?_ _ | with_reducible refine Below.alloc ?_ ?_ _ | omega | (simp; done) | (simp; omega))).mono ?_
    rintro e w2 ⟨rfl, hb2⟩
    have B2 := belows (B := w.heap.size) (a := w) (by repeat' first | with_reducible exact Below.refl _ _ | with_reducible assumption | with_reducible refine belows_drewN ?_ _ | with_reducible refine Below.drew ?_ | with_reducible refine Below.setCell ?_ ?_ _ | with_reducible refine Below.alloc ?_ ?_ _ | omega | (simp; done) | (simp; omega)) hb2 (by simp)
    have hz := B2.size
    go_wp2
    go_ret
    exact ⟨rfl, HP.out _ (by repeat' first | with_reducible exact Below.refl _ _ | with_reducible assumption | with_reducible refine belows_drewN ?_ _ | with_reducible refine Below.drew ?_ | with_reducible refine Below.setCell ?_ ?_ _ | with_reducible refine Below.alloc ?_ ?_ _ | omega | (simp; done) | (simp; omega))⟩
  · obtain ⟨t, hth, hc0⟩ : ∃ t, s.thing ref = some t ∧ ¬ t.cl ≠ -1 := by
      refine Classical.byContradiction fun hx => hn fun t ht => Classical.byContradiction fun hc => ?_
      exact hx ⟨t, ht, hc⟩
    have hc : t.cl = -1 := Classical.byContradiction hc0
    obtain ⟨r1, r2, hk⟩ := thing_at hth
    obtain ⟨k, hkk⟩ : ∃ k, k = (ref - 1).toNat := ⟨_, rfl⟩
    rw [← hkk] at hk
    have hrk : ref = (k : Int) + 1 := by omega
    by_cases hi : i < 0 ∨ (t.vs.length : Int) ≤ i
    · obtain ⟨-, e2⟩ := Hp.el_idx (v := v) hth hc hi
      rw [e2]
      have HE := hid (fun X (b : Below w.heap.size w X) => element_idx (h.below b) ok hk hc i hi)
      rw [← hrk] at HE
      obtain ⟨ib, hib⟩ : ∃ ib, ib = H.ib := ⟨_, rfl⟩
      rw [← hhb] at hgen k0 HM ⊢
      rw [← hib] at k0 HE
      unfold placeNone at HE
      unfold vA
      clear h hn e2 hib hhb hi hrk hkk hk r1 r2 hth hc
      go_enter Try.func15, Try.ntmps15
      go_wp2_with fail
      refine (HM.out _ (by repeat' first | with_reducible exact Below.refl _ _ | with_reducible assumption | with_reducible refine belows_drewN ?_ _ | with_reducible refine Below.drew ?_ | with_reducible refine Below.setCell ?_ ?_ _ | with_reducible refine Below.alloc ?_ ?_ _ | omega | (simp; done) | (simp; omega))).mono ?_
      rintro e w1 ⟨rfl, rfl⟩
      go_wp2_with fail
      refine (HE.out _ (by repeat' first | with_reducible exact Below.refl _ _ | with_reducible assumption | with_reducible refine belows_drewN ?_ _ | with_reducible refine Below.drew ?_ | with_reducible refine Below.setCell ?_ ?_ _ | with_reducible refine Below.alloc ?_ ?_ _ | omega | (simp; done) | (simp; omega))).mono ?_
      rintro e w2 ⟨rfl, hb2⟩
      have B2 := belows (B := w.heap.size) (a := w) (by repeat' first | with_reducible exact Below.refl _ _ | with_reducible assumption | with_reducible refine belows_drewN ?_ _ | with_reducible refine Below.drew ?_ | with_reducible refine Below.setCell ?_ ?_ _ | with_reducible refine Below.alloc ?_ ?_ _ | omega | (simp; done) | (simp; omega)) hb2 (by simp)
      have hz := B2.size
      go_wp2
      go_ret
      exact ⟨rfl, HP.out _ (by repeat' first | with_reducible exact Below.refl _ _ | with_reducible assumption | with_reducible refine belows_drewN ?_ _ | with_reducible refine Below.drew ?_ | with_reducible refine Below.setCell ?_ ?_ _ | with_reducible refine Below.alloc ?_ ?_ _ | omega | (simp; done) | (simp; omega))⟩
    · obtain ⟨j, rfl⟩ : ∃ j : Nat, i = j := ⟨i.toNat, by omega⟩
      have hj : j < t.vs.length := by omega
      obtain ⟨u, hu⟩ : ∃ u, t.vs[j]? = some u := ⟨_, List.getElem?_eq_getElem hj⟩
      obtain ⟨x, hx⟩ := Hp.ok_one ok (List.mem_of_getElem? hk) hc
      obtain ⟨-, e2⟩ := Hp.el_ok (v := v) hth hc hx hu
      rw [e2]
      have HE := hid (fun X (b : Below w.heap.size w X) => element_ok (h.below b) ok hk hc hx j hj)
      have HV2 := hid (fun X (b : Below w.heap.size w X) g hg => vals_at (h.below b) hk hu (g := g) hg)
      have HPut := hid (fun X (b : Below w.heap.size w X) g hg => Went.start (base := base) b (putV_thing (h.below b) v hk hj (g := g) hg))
      have HGl := hid (fun g (hg : H.d.ownBlock = some g) => Kit.own_lt h.od g hg)
      rw [hkk] at HPut
      rw [← hrk] at HE
      obtain ⟨ib, hib⟩ : ∃ ib, ib = H.ib := ⟨_, rfl⟩
      rw [← hhb] at hgen k0 HM ⊢
      rw [← hib] at k0 HE
      unfold PlPost at HE
      obtain ⟨lo, hlo⟩ : ∃ lo, lo = loV s k := ⟨_, rfl⟩
      rw [hkk] at hlo HV2 HE
      rw [← hlo] at HV2 HPut HE
      have HY := hid (fun g X (a0 : X.cell? ⟨g, lo * 2 + j * 2, none⟩ = some (.int .i64 u.k)) (a1 : X.cell? ⟨g, lo * 2 + j * 2 + 1, none⟩ = some (.int .i64 u.n)) f0 f1 hg hf => put_yes x v g (lo * 2 + j * 2) X a0 a1 f0 f1 hg hf)
      have HN := hid (fun g X hf => put_no x v g (lo * 2 + j * 2) X hf)
      unfold placeAt at HE HY HN
      unfold vA at HY HN ⊢
      clear h hn e2 hib hhb hi hrk hkk hk r1 r2 hth hc hlo hu hx
      cases hf : fitsOf x v with
      | true =>
        rw [if_pos rfl]
        have Hf := hid hf
        clear hf
        go_enter Try.func15, Try.ntmps15
        go_wp2_with fail
        refine (HM.out _ (by repeat' first | with_reducible exact Below.refl _ _ | with_reducible assumption | with_reducible refine belows_drewN ?_ _ | with_reducible refine Below.drew ?_ | with_reducible refine Below.setCell ?_ ?_ _ | with_reducible refine Below.alloc ?_ ?_ _ | omega | (simp; done) | (simp; omega))).mono ?_
        rintro e w1 ⟨rfl, rfl⟩
        go_wp2_with fail
        refine (HE.out _ (by repeat' first | with_reducible exact Below.refl _ _ | with_reducible assumption | with_reducible refine belows_drewN ?_ _ | with_reducible refine Below.drew ?_ | with_reducible refine Below.setCell ?_ ?_ _ | with_reducible refine Below.alloc ?_ ?_ _ | omega | (simp; done) | (simp; omega))).mono ?_
        rintro e w2 ⟨g, hg, rfl, hb2⟩
        have B2 := belows (B := w.heap.size) (a := w) (by repeat' first | with_reducible exact Below.refl _ _ | with_reducible assumption | with_reducible refine belows_drewN ?_ _ | with_reducible refine Below.drew ?_ | with_reducible refine Below.setCell ?_ ?_ _ | with_reducible refine Below.alloc ?_ ?_ _ | omega | (simp; done) | (simp; omega)) hb2 (by simp)
        have hz := B2.size
        have HG := hid hg
        have bv := (BX.new w #[.int .i64 v.k, .int .i64 v.n] 35).below hb2
        have d0 := bv.cell 0
        have d1 := bv.cell 1
        simp at d0 d1
        have hz1 := bv.sz
        obtain ⟨W, hW⟩ : ∃ W, W = w2.alloc (.cells #[.int .i64 x.k, .string x.s, .pointer (some ⟨g, lo * 2 + j * 2, none⟩)] 92) := ⟨_, rfl⟩
        have BW : Below w.heap.size w W := by rw [hW]; exact (by repeat' first | with_reducible exact Below.refl _ _ | with_reducible assumption | with_reducible refine belows_drewN ?_ _ | with_reducible refine Below.drew ?_ | with_reducible refine Below.setCell ?_ ?_ _ | with_reducible refine Below.alloc ?_ ?_ _ | omega | (simp; done) | (simp; omega))
        obtain ⟨a0, a1, f⟩ := HV2.out W BW g hg
        have hgl := Nat.lt_of_lt_of_le (HGl.out g hg) BW.size
        have HYW := hid (HY.out g W a0 a1 (f _) (f _) hgl Hf.out)
        rw [hW] at HYW
        clear hb2 hg bv a0 a1 f hgl
        go_wp2_with fail
        refine HYW.out.mono ?_
        rintro e w3 ⟨rfl, w4, hb4, hw⟩
        rw [← hW] at hb4
        have HFin := hid (HPut.out w4 (belows BW hb4 BW.size) g HG.out)
        rw [← hw] at HFin
        clear hW hw hb4 BW
        go_wp2
        go_ret
        exact ⟨rfl, HFin.out⟩
      | false =>
        rw [if_neg (by decide)]
        have HNo := hid (fun g X => HN.out g X hf)
        clear hf
        go_enter Try.func15, Try.ntmps15
        go_wp2_with fail
        refine (HM.out _ (by repeat' first | with_reducible exact Below.refl _ _ | with_reducible assumption | with_reducible refine belows_drewN ?_ _ | with_reducible refine Below.drew ?_ | with_reducible refine Below.setCell ?_ ?_ _ | with_reducible refine Below.alloc ?_ ?_ _ | omega | (simp; done) | (simp; omega))).mono ?_
        rintro e w1 ⟨rfl, rfl⟩
        go_wp2_with fail
        refine (HE.out _ (by repeat' first | with_reducible exact Below.refl _ _ | with_reducible assumption | with_reducible refine belows_drewN ?_ _ | with_reducible refine Below.drew ?_ | with_reducible refine Below.setCell ?_ ?_ _ | with_reducible refine Below.alloc ?_ ?_ _ | omega | (simp; done) | (simp; omega))).mono ?_
        rintro e w2 ⟨g, hg, rfl, hb2⟩
        have B2 := belows (B := w.heap.size) (a := w) (by repeat' first | with_reducible exact Below.refl _ _ | with_reducible assumption | with_reducible refine belows_drewN ?_ _ | with_reducible refine Below.drew ?_ | with_reducible refine Below.setCell ?_ ?_ _ | with_reducible refine Below.alloc ?_ ?_ _ | omega | (simp; done) | (simp; omega)) hb2 (by simp)
        have hz := B2.size
        have bv := (BX.new w #[.int .i64 v.k, .int .i64 v.n] 35).below hb2
        have d0 := bv.cell 0
        have d1 := bv.cell 1
        simp at d0 d1
        have hz1 := bv.sz
        clear hb2 hg bv
        go_wp2_with fail
        refine (HNo.out _ _).mono ?_
        rintro e w3 ⟨rfl, hb3⟩
        have B3 := belows (B := w.heap.size) (a := w) (by repeat' first | with_reducible exact Below.refl _ _ | with_reducible assumption | with_reducible refine belows_drewN ?_ _ | with_reducible refine Below.drew ?_ | with_reducible refine Below.setCell ?_ ?_ _ | with_reducible refine Below.alloc ?_ ?_ _ | omega | (simp; done) | (simp; omega)) hb3 (by simp; omega)
        go_wp2
        go_ret
        exact ⟨rfl, HP.out _ (by repeat' first | with_reducible exact Below.refl _ _ | with_reducible assumption | with_reducible refine belows_drewN ?_ _ | with_reducible refine Below.drew ?_ | with_reducible refine Below.setCell ?_ ?_ _ | with_reducible refine Below.alloc ?_ ?_ _ | omega | (simp; done) | (simp; omega))⟩
theorem BX.set2 {w : World} {b : Nat} {T : TypeId} {c0 c1 : Value} (h : BX w b #[c0, c1] T) (u0 u1 : Value) (o : Obj) : (((w.setCell ⟨b, 0, none⟩ u0).setCell ⟨b, 1, none⟩ u1).alloc o).cell? ⟨b, 0, none⟩ = some u0 ∧ (((w.setCell ⟨b, 0, none⟩ u0).setCell ⟨b, 1, none⟩ u1).alloc o).cell? ⟨b, 1, none⟩ = some u1 := by
  have e := ((h.set 0 u0).set 1 u1).below ((Below.refl _ _).alloc (Nat.le_refl _) o)
  have e0 := e.cell 0
  have e1 := e.cell 1
  simp only [List.setIfInBounds_toArray, List.set_cons_zero, List.set_cons_succ] at e0 e1
  exact ⟨e0, e1⟩
set_option maxRecDepth 100000 in
set_option maxHeartbeats 1000000 in
theorem Load_any {w : World} {base : Nat} {H : HV} {s : Hp.Hs} (h : Rep w base H s.flat) (ok : s.Ok) (ref i : Int) (hr : -9223372036854775808 ≤ ref ∧ ref ≤ 9223372036854775807) :
    Calls Try.prog 16 #[.pointer (some ⟨H.hb, 0, none⟩), .int .i64 ref, .int .i64 i] w fun e w' => e = .returned (.tuple #[vA (s.el ref i).1, .int .i64 (s.el ref i).2]) ∧ Below w.heap.size w w' := by
  have HM := hid (fun X (k : Below w.heap.size w X) => isMade_any (h.below k))
  have hgen := h.hb_lt
  obtain ⟨k0, -⟩ := h.cells
  obtain ⟨hb, hhb⟩ : ∃ hb, hb = H.hb := ⟨_, rfl⟩
  by_cases hn : ∀ t, s.thing ref = some t → t.cl ≠ -1
  · obtain ⟨e2, -⟩ := Hp.el_ref (i := i) (v := Hp.V0) hn
    rw [e2]
    have HE := hid (fun X (k : Below w.heap.size w X) => element_ref (h.below k) ok ref i hr (isArr_no hn))
    obtain ⟨ib, hib⟩ : ∃ ib, ib = H.ib := ⟨_, rfl⟩
    rw [← hhb] at hgen k0 HM ⊢
    rw [← hib] at k0 HE
    unfold placeNone at HE
    unfold vA Hp.V0
    clear h hn e2 hib hhb
    (go_enter Try.func16, Try.ntmps16; go_wp2_with fail; refine (HM.out _ (by repeat' first | with_reducible exact Below.refl _ _ | with_reducible assumption | with_reducible refine belows_drewN ?_ _ | with_reducible refine Below.drew ?_ | with_reducible refine Below.setCell ?_ ?_ _ | with_reducible refine Below.alloc ?_ ?_ _ | omega | (simp; done) | (simp; omega))).mono ?_; rintro e w1 ⟨rfl, rfl⟩; go_wp2_with fail; refine (HE.out _ (by repeat' first | with_reducible exact Below.refl _ _ | with_reducible assumption | with_reducible refine belows_drewN ?_ _ | with_reducible refine Below.drew ?_ | with_reducible refine Below.setCell ?_ ?_ _ | with_reducible refine Below.alloc ?_ ?_ _ | omega | (simp; done) | (simp; omega))).mono ?_)
    rintro e w2 ⟨rfl, hb2⟩
    (have B2 := belows (B := w.heap.size) (a := w) (by repeat' first | with_reducible exact Below.refl _ _ | with_reducible assumption | with_reducible refine belows_drewN ?_ _ | with_reducible refine Below.drew ?_ | with_reducible refine Below.setCell ?_ ?_ _ | with_reducible refine Below.alloc ?_ ?_ _ | omega | (simp; done) | (simp; omega)) hb2 (by simp); have hz := B2.size; have bv := (BX.new w #[.int .i64 0, .int .i64 0] 35).below hb2; have d0 := bv.cell 0; have d1 := bv.cell 1; have f0 := bv.frozen 0; have f1 := bv.frozen 1; simp at d0 d1; have hz1 := bv.sz; have HB := hid bv; clear bv hb2)
    go_wp2
    exact bodyPost_ret (v := .tuple #[.agg #[.int .i64 0, .int .i64 0], .int .i64 60]) (by (obtain ⟨e0, e1⟩ := HB.out.set2 (.int .i64 0) (.int .i64 0) (.cells #[.int .i64 0, .string ⟨#[]⟩, .pointer none] 92)); simp [results, Try.results16, go_sem, e0, e1]) rfl ⟨rfl, (by repeat' first | with_reducible exact Below.refl _ _ | with_reducible assumption | with_reducible refine belows_drewN ?_ _ | with_reducible refine Below.drew ?_ | with_reducible refine Below.setCell ?_ ?_ _ | with_reducible refine Below.alloc ?_ ?_ _ | omega | (simp; done) | (simp; omega))⟩
  · obtain ⟨t, hth, hc0⟩ : ∃ t, s.thing ref = some t ∧ ¬ t.cl ≠ -1 := by
      refine Classical.byContradiction fun hx => hn fun t ht => Classical.byContradiction fun hc => ?_
      exact hx ⟨t, ht, hc⟩
    have hc : t.cl = -1 := Classical.byContradiction hc0
    obtain ⟨r1, r2, hk⟩ := thing_at hth
    obtain ⟨k, hkk⟩ : ∃ k, k = (ref - 1).toNat := ⟨_, rfl⟩
    rw [← hkk] at hk
    have hrk : ref = (k : Int) + 1 := by omega
    by_cases hi : i < 0 ∨ (t.vs.length : Int) ≤ i
    · obtain ⟨e2, -⟩ := Hp.el_idx (v := Hp.V0) hth hc hi
      rw [e2]
      have HE := hid (fun X (b : Below w.heap.size w X) => element_idx (h.below b) ok hk hc i hi)
      rw [← hrk] at HE
      obtain ⟨ib, hib⟩ : ∃ ib, ib = H.ib := ⟨_, rfl⟩
      rw [← hhb] at hgen k0 HM ⊢
      rw [← hib] at k0 HE
      unfold placeNone at HE
      unfold vA Hp.V0
      clear h hn e2 hib hhb hi hrk hkk hk r1 r2 hth hc
      (go_enter Try.func16, Try.ntmps16; go_wp2_with fail; refine (HM.out _ (by repeat' first | with_reducible exact Below.refl _ _ | with_reducible assumption | with_reducible refine belows_drewN ?_ _ | with_reducible refine Below.drew ?_ | with_reducible refine Below.setCell ?_ ?_ _ | with_reducible refine Below.alloc ?_ ?_ _ | omega | (simp; done) | (simp; omega))).mono ?_; rintro e w1 ⟨rfl, rfl⟩; go_wp2_with fail; refine (HE.out _ (by repeat' first | with_reducible exact Below.refl _ _ | with_reducible assumption | with_reducible refine belows_drewN ?_ _ | with_reducible refine Below.drew ?_ | with_reducible refine Below.setCell ?_ ?_ _ | with_reducible refine Below.alloc ?_ ?_ _ | omega | (simp; done) | (simp; omega))).mono ?_)
      rintro e w2 ⟨rfl, hb2⟩
      (have B2 := belows (B := w.heap.size) (a := w) (by repeat' first | with_reducible exact Below.refl _ _ | with_reducible assumption | with_reducible refine belows_drewN ?_ _ | with_reducible refine Below.drew ?_ | with_reducible refine Below.setCell ?_ ?_ _ | with_reducible refine Below.alloc ?_ ?_ _ | omega | (simp; done) | (simp; omega)) hb2 (by simp); have hz := B2.size; have bv := (BX.new w #[.int .i64 0, .int .i64 0] 35).below hb2; have d0 := bv.cell 0; have d1 := bv.cell 1; have f0 := bv.frozen 0; have f1 := bv.frozen 1; simp at d0 d1; have hz1 := bv.sz; have HB := hid bv; clear bv hb2)
      go_wp2
      exact bodyPost_ret (v := .tuple #[.agg #[.int .i64 0, .int .i64 0], .int .i64 61]) (by (obtain ⟨e0, e1⟩ := HB.out.set2 (.int .i64 0) (.int .i64 0) (.cells #[.int .i64 0, .string ⟨#[]⟩, .pointer none] 92)); simp [results, Try.results16, go_sem, e0, e1]) rfl ⟨rfl, (by repeat' first | with_reducible exact Below.refl _ _ | with_reducible assumption | with_reducible refine belows_drewN ?_ _ | with_reducible refine Below.drew ?_ | with_reducible refine Below.setCell ?_ ?_ _ | with_reducible refine Below.alloc ?_ ?_ _ | omega | (simp; done) | (simp; omega))⟩
    · obtain ⟨j, rfl⟩ : ∃ j : Nat, i = j := ⟨i.toNat, by omega⟩
      have hj : j < t.vs.length := by omega
      obtain ⟨u, hu⟩ : ∃ u, t.vs[j]? = some u := ⟨_, List.getElem?_eq_getElem hj⟩
      obtain ⟨x, hx⟩ := Hp.ok_one ok (List.mem_of_getElem? hk) hc
      obtain ⟨e2, -⟩ := Hp.el_ok (v := Hp.V0) hth hc hx hu
      rw [e2]
      have HE := hid (fun X (b : Below w.heap.size w X) => element_ok (h.below b) ok hk hc hx j hj)
      have HV2 := hid (fun X (b : Below w.heap.size w X) g hg => vals_at (h.below b) hk hu (g := g) hg)
      have HGl := hid (fun g (hg : H.d.ownBlock = some g) => Kit.own_lt h.od g hg)
      rw [← hrk] at HE
      obtain ⟨ib, hib⟩ : ∃ ib, ib = H.ib := ⟨_, rfl⟩
      rw [← hhb] at hgen k0 HM ⊢
      rw [← hib] at k0 HE
      unfold PlPost at HE
      obtain ⟨lo, hlo⟩ : ∃ lo, lo = loV s k := ⟨_, rfl⟩
      rw [hkk] at hlo HV2 HE
      rw [← hlo] at HV2 HE
      unfold placeAt at HE
      unfold vA
      clear h hn e2 hib hhb hi hrk hkk hk r1 r2 hth hc hlo hu hx
      (go_enter Try.func16, Try.ntmps16; go_wp2_with fail; refine (HM.out _ (by repeat' first | with_reducible exact Below.refl _ _ | with_reducible assumption | with_reducible refine belows_drewN ?_ _ | with_reducible refine Below.drew ?_ | with_reducible refine Below.setCell ?_ ?_ _ | with_reducible refine Below.alloc ?_ ?_ _ | omega | (simp; done) | (simp; omega))).mono ?_; rintro e w1 ⟨rfl, rfl⟩; go_wp2_with fail; refine (HE.out _ (by repeat' first | with_reducible exact Below.refl _ _ | with_reducible assumption | with_reducible refine belows_drewN ?_ _ | with_reducible refine Below.drew ?_ | with_reducible refine Below.setCell ?_ ?_ _ | with_reducible refine Below.alloc ?_ ?_ _ | omega | (simp; done) | (simp; omega))).mono ?_)
      rintro e w2 ⟨g, hg, rfl, hb2⟩
      (have B2 := belows (B := w.heap.size) (a := w) (by repeat' first | with_reducible exact Below.refl _ _ | with_reducible assumption | with_reducible refine belows_drewN ?_ _ | with_reducible refine Below.drew ?_ | with_reducible refine Below.setCell ?_ ?_ _ | with_reducible refine Below.alloc ?_ ?_ _ | omega | (simp; done) | (simp; omega)) hb2 (by simp); have hz := B2.size; have bv := (BX.new w #[.int .i64 0, .int .i64 0] 35).below hb2; have d0 := bv.cell 0; have d1 := bv.cell 1; have f0 := bv.frozen 0; have f1 := bv.frozen 1; simp at d0 d1; have hz1 := bv.sz; have HB := hid bv; clear bv hb2)
      obtain ⟨W, hW⟩ : ∃ W, W = w2.alloc (.cells #[.int .i64 x.k, .string x.s, .pointer (some ⟨g, lo * 2 + j * 2, none⟩)] 92) := ⟨_, rfl⟩
      have BW : Below w.heap.size w W := by rw [hW]; exact (by repeat' first | with_reducible exact Below.refl _ _ | with_reducible assumption | with_reducible refine belows_drewN ?_ _ | with_reducible refine Below.drew ?_ | with_reducible refine Below.setCell ?_ ?_ _ | with_reducible refine Below.alloc ?_ ?_ _ | omega | (simp; done) | (simp; omega))
      obtain ⟨a0, a1, -⟩ := HV2.out W BW g hg
      rw [hW] at a0 a1
      clear hg hW BW
      go_wp2
      exact bodyPost_ret (v := .tuple #[.agg #[.int .i64 u.k, .int .i64 u.n], .int .i64 0]) (by (obtain ⟨e0, e1⟩ := HB.out.set2 (.int .i64 u.k) (.int .i64 u.n) (.cells #[.int .i64 x.k, .string x.s, .pointer (some ⟨g, lo * 2 + j * 2, none⟩)] 92)); simp [results, Try.results16, go_sem, e0, e1]) rfl ⟨rfl, (by repeat' first | with_reducible exact Below.refl _ _ | with_reducible assumption | with_reducible refine belows_drewN ?_ _ | with_reducible refine Below.drew ?_ | with_reducible refine Below.setCell ?_ ?_ _ | with_reducible refine Below.alloc ?_ ?_ _ | omega | (simp; done) | (simp; omega))⟩
end Go.Proofs.Ythembnakeikmeaa
