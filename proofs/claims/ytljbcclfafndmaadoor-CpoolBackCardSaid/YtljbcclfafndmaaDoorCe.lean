/- The reader's entry: its boxes. -/
import Derived.Test.YtljbcclfafndmaaDoorCd
import Derived.Test.YtljbcclfafndmaaDoorStep
namespace Go.Proofs.YtljbcclfafndmaaDoor
open Go.RowKit

theorem wd_out {k : Nat} (h : 13 ≤ k) : Cp.wd (k : Int) = (0, 0, 0, 0) ∧ Cp.knownB (k : Int) = false := by
  refine ⟨?_, ?_⟩
  · unfold Cp.wd
    rw [if_neg (by omega), if_neg (by omega), if_neg (by omega), if_neg (by omega), if_neg (by omega)]
  · unfold Cp.knownB
    rw [decide_eq_false_iff_not]
    omega
theorem widthsOf_any (k : Nat) (w : World) (ht : Tabs w) : Calls Tryd.prog 55 #[.int .i64 k] w fun e w' => e = .returned (.tuple #[.agg #[.int .i64 (Cp.wd k).1, .int .i64 (Cp.wd k).2.1, .int .i64 (Cp.wd k).2.2.1, .int .i64 (Cp.wd k).2.2.2], .bool (Cp.knownB k)]) ∧ Below w.heap.size w w' := by
  by_cases h : k < 13
  · exact widthsOf_in k w h ht
  · obtain ⟨h1, h2⟩ := wd_out (k := k) (by omega)
    rw [h1, h2]
    exact widthsOf_out k w (.inr (by omega))
theorem numI_one (c : UInt8) : Cp.numI [c] = (c.toNat : Int) := by
  have := Cp.u8_lt c
  unfold Cp.numI
  rw [List.foldl_cons, List.foldl_nil, Cp.w64]
  omega
/-- A number with its sign. -/
def sgn (z : Int) (k : Nat) : Int := if k = 0 then 0 else if k = 4 then IntKind.i32.wrap z else IntKind.i64.wrap z
theorem signed_any (z : Int) (k : Nat) (w : World) (hk : k = 0 ∨ k = 4 ∨ k = 8) : Calls Tryd.prog 60 #[.int .i64 z, .int .i64 k] w fun e w' => e = .returned (.int .i64 (sgn z k)) ∧ w = w' := by
  rcases hk with rfl | rfl | rfl
  · exact signed_0 z w
  · exact signed_4 z w
  · exact signed_8 z w
theorem wd_n (t : Int) : (Cp.wd t).2.1 = 0 ∨ (Cp.wd t).2.1 = 4 ∨ (Cp.wd t).2.1 = 8 := by
  unfold Cp.wd
  repeat' split
  all_goals simp
theorem wd_le (t : Int) : (Cp.wd t).1 ≤ 2 ∧ (Cp.wd t).2.1 ≤ 8 ∧ (Cp.wd t).2.2.1 ≤ 2 ∧ (Cp.wd t).2.2.2 ≤ 2 := by
  unfold Cp.wd
  repeat' split
  all_goals simp
/-- A block with these cells. -/
def BX (w : World) (B : Nat) (cs : Array Value) (T : TypeId) : Prop := w.heap[B]? = some (.cells cs T (0, 0))
theorem BX.new (w : World) (cs : Array Value) (T : TypeId) : BX (w.alloc (.cells cs T)) w.heap.size cs T := by
  show (w.heap.push _)[w.heap.size]? = _
  rw [Array.getElem?_push_size]
theorem BX.sz {w : World} {B : Nat} {cs : Array Value} {T : TypeId} (h : BX w B cs T) : B < w.heap.size := (Array.getElem?_eq_some_iff.1 h).1
theorem BX.below {w w' : World} {B n : Nat} {cs : Array Value} {T : TypeId} (h : BX w B cs T) (hb : Below n w w') (hn : B < n) : BX w' B cs T := (hb.block B hn).trans h
theorem BX.grown {w w' : World} {B : Nat} {cs : Array Value} {T : TypeId} {row : Option Nat} (h : BX w B cs T) (hg : w.grownBy w' row) (hne : row ≠ some B) : BX w' B cs T := (hg.block B h.sz (fun e => hne e.symm)).trans h
theorem BX.cell {w : World} {B : Nat} {cs : Array Value} {T : TypeId} (h : BX w B cs T) (j : Nat) : w.cell? ⟨B, j, none⟩ = cs[j]? := by simp [World.cell?, show w.heap[B]? = _ from h]
theorem BX.frozen {w : World} {B : Nat} {cs : Array Value} {T : TypeId} (h : BX w B cs T) (j : Nat) : w.frozen? ⟨B, j, none⟩ = false := by simp [World.frozen?, show w.heap[B]? = _ from h]
theorem BX.set {w : World} {B : Nat} {cs : Array Value} {T : TypeId} (h : BX w B cs T) (j : Nat) (u : Value) : BX (w.setCell ⟨B, j, none⟩ u) B (cs.setIfInBounds j u) T := by
  obtain ⟨hlt, hk⟩ := Array.getElem?_eq_some_iff.1 h
  show (w.heap.modify B _)[B]? = _
  rw [Array.getElem?_eq_getElem (by rw [Array.size_modify]; exact hlt), Array.getElem_modify_self, hk]
  rfl
theorem Rdr.grown {w w' : World} {pb : Nat} {bs : List UInt8} {row : Option Nat} (h : Rdr w pb bs) (hg : w.grownBy w' row) (hne : ∀ k, row = some k → pb < k) : Rdr w' pb bs := by
  have hs := h.sz
  obtain ⟨v, h, k⟩ := h
  have hb := fun b (hb : b ≤ pb) => hg.block b (by omega) (fun e => by have := hne b e.symm; omega)
  exact ⟨v, (hb pb (Nat.le_refl _)).trans h, k.same fun b o hl => World.cell?_of_block (hb b (by omega))⟩
theorem set_grown (w : World) (B j : Nat) (u : Value) : w.grownBy (w.setCell ⟨B, j, none⟩ u) (some B) := ⟨rfl, rfl, rfl, by simp, fun i _ hne => Below.heap_setCell _ _ _ i (fun e => hne (by rw [e]))⟩
/-- An entry's cells. -/
def cC (c : Cp.C) : Array Value := #[.int .i64 c.t, .string c.s, .int .i64 c.n, .int .i64 c.a, .int .i64 c.b]
/-- What entry holds while it reads. -/
structure EnSt (pb B4 B5 B6 : Nat) (w wr : World) (bs : List UInt8) (c : Cp.C) (x : Array Value) : Prop where
  rd : Rdr wr pb bs
  b4 : BX wr B4 (cC Cp.C0) 46
  b5 : BX wr B5 (cC c) 46
  b6 : BX wr B6 x 86
  gr : w.grownBy wr (some pb)
  l0 : pb < w.heap.size
  l4 : w.heap.size ≤ B4
  l45 : B4 < B5
  l56 : B5 < B6
theorem EnSt.stp {pb B4 B5 B6 : Nat} {w wr w' : World} {bs bs' : List UInt8} {c : Cp.C} {x : Array Value} (h : EnSt pb B4 B5 B6 w wr bs c x) (hs : Stp pb bs' wr w') : EnSt pb B4 B5 B6 w w' bs' c x := by
  have := h.l0; have := h.l4; have := h.l45; have := h.l56
  exact ⟨hs.2, h.b4.grown hs.1 (by simp; omega), h.b5.grown hs.1 (by simp; omega), h.b6.grown hs.1 (by simp; omega), grown_trans h.gr hs.1, h.l0, h.l4, h.l45, h.l56⟩
theorem EnSt.set {pb B4 B5 B6 : Nat} {w wr : World} {bs : List UInt8} {c : Cp.C} {x : Array Value} (h : EnSt pb B4 B5 B6 w wr bs c x) (j : Nat) (u : Value) (c' : Cp.C) (hc : (cC c).setIfInBounds j u = cC c') : EnSt pb B4 B5 B6 w (wr.setCell ⟨B5, j, none⟩ u) bs c' x := by
  have := h.l0; have := h.l4; have := h.l45; have := h.l56
  have hg := set_grown wr B5 j u
  refine ⟨h.rd.grown hg (fun k e => by have := Option.some.inj e; omega), h.b4.grown hg (by simp; omega), ?_, h.b6.grown hg (by simp; omega), ?_, h.l0, h.l4, h.l45, h.l56⟩
  · rw [← hc]; exact h.b5.set j u
  · exact ⟨h.gr.os, h.gr.tape, h.gr.output, by rw [World.size_setCell]; exact h.gr.size, fun i hi hne => (hg.block i (Nat.lt_of_lt_of_le hi h.gr.size) (fun e => by have := Option.some.inj e; omega)).trans (h.gr.block i hi hne)⟩
theorem EnSt.drew {pb B4 B5 B6 : Nat} {w wr : World} {bs : List UInt8} {c : Cp.C} {x : Array Value} (h : EnSt pb B4 B5 B6 w wr bs c x) : EnSt pb B4 B5 B6 w wr.drew bs c x :=
  ⟨h.rd.grown (row := none) ⟨rfl, rfl, rfl, Nat.le_refl _, fun _ _ _ => rfl⟩ (fun k e => by cases e), h.b4, h.b5, h.b6, ⟨h.gr.os, h.gr.tape, h.gr.output, h.gr.size, h.gr.block⟩, h.l0, h.l4, h.l45, h.l56⟩
/-- What entry reads. -/
def enP (room : Int) : List UInt8 → Except Int (Cp.C × List UInt8)
  | [] => .error 30
  | c :: r =>
    if Cp.knownB (c.toNat : Int) = false ∨ ((c.toNat : Int) = 5 ∧ room < 2) then .error 31
    else match txP (Cp.wd (c.toNat : Int)).1 r with
      | .error e => .error e
      | .ok (s, r1) =>
        if r1.length < (Cp.wd (c.toNat : Int)).2.1 then .error 30
        else if (r1.drop (Cp.wd (c.toNat : Int)).2.1).length < (Cp.wd (c.toNat : Int)).2.2.1 then .error 30
        else if ((r1.drop (Cp.wd (c.toNat : Int)).2.1).drop (Cp.wd (c.toNat : Int)).2.2.1).length < (Cp.wd (c.toNat : Int)).2.2.2 then .error 30
        else .ok (⟨(c.toNat : Int), ⟨s.toArray⟩, sgn (Cp.numI (r1.take (Cp.wd (c.toNat : Int)).2.1)) (Cp.wd (c.toNat : Int)).2.1, Cp.numI ((r1.drop (Cp.wd (c.toNat : Int)).2.1).take (Cp.wd (c.toNat : Int)).2.2.1), Cp.numI (((r1.drop (Cp.wd (c.toNat : Int)).2.1).drop (Cp.wd (c.toNat : Int)).2.2.1).take (Cp.wd (c.toNat : Int)).2.2.2)⟩,
          ((r1.drop (Cp.wd (c.toNat : Int)).2.1).drop (Cp.wd (c.toNat : Int)).2.2.1).drop (Cp.wd (c.toNat : Int)).2.2.2)
end Go.Proofs.YtljbcclfafndmaaDoor
