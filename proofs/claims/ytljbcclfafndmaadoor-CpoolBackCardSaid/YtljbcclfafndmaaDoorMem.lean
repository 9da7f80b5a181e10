/- Own kit: slices that read as lists of cells. -/
import Derived.WalkKit
namespace Go.Proofs.YtljbcclfafndmaaDoor.Kit
open Go Go.RowKit

/-- A slice value of n elements, 'size' cells each, that reads as these cells. -/
def IsS (size : Nat) (w : World) (v : Value) (n : Nat) (xs : List Value) : Prop :=
  xs.length = n * size ∧ n ≤ 140737488355328 ∧ ((n = 0 ∧ ∃ a cap, v = .slice a 0 cap) ∨ (∃ b o cap, v = .slice (some ⟨b, o, none⟩) n cap ∧ n ≤ cap ∧ b < w.heap.size ∧ ∀ i u, xs[i]? = some u → w.cell? ⟨b, o + i, none⟩ = some u))
theorem IsS.below {size : Nat} {w w' : World} {v : Value} {n : Nat} {xs : List Value} (h : IsS size w v n xs) {B : Nat} (hb : Below B w w') (hB : w.heap.size ≤ B) : IsS size w' v n xs := by
  refine ⟨h.1, h.2.1, ?_⟩
  rcases h.2.2 with h | ⟨b, o, cap, hv, hl, hlt, hc⟩
  · exact .inl h
  · exact .inr ⟨b, o, cap, hv, hl, Nat.lt_of_lt_of_le hlt hb.size, fun i u hi => (hb.cell (p := ⟨b, o + i, none⟩) (by simp; omega)).trans (hc i u hi)⟩
theorem IsS.len {size : Nat} {w : World} {v : Value} {n : Nat} {xs : List Value} (h : IsS size w v n xs) : ∃ a cap, v = .slice a n cap := by
  rcases h.2.2 with ⟨rfl, a, cap, rfl⟩ | ⟨b, o, cap, rfl, -⟩
  · exact ⟨a, cap, rfl⟩
  · exact ⟨_, cap, rfl⟩
/-- What a slice with an element is. -/
theorem IsS.some {size : Nat} {w : World} {v : Value} {n : Nat} {xs : List Value} (h : IsS size w v n xs) (hn : 0 < n) :
    ∃ b o cap, v = .slice (Option.some ⟨b, o, none⟩) n cap ∧ n ≤ cap ∧ b < w.heap.size ∧ ∀ i u, xs[i]? = Option.some u → w.cell? ⟨b, o + i, none⟩ = Option.some u := by
  rcases h.2.2 with ⟨rfl, _⟩ | h
  · omega
  · exact h
/-- Out of a row of the call's own. -/
theorem isS_of_owns {w : World} {base : Nat} {e : TypeId} {size : Nat} {v : Value} {n : Nat} {xs : List Value} (h : w.ownsRow base e size v n xs) (hn : n ≤ 140737488355328) : IsS size w v n xs := by
  obtain ⟨hl, h⟩ := h
  refine ⟨hl, hn, ?_⟩
  rcases h with ⟨rfl, rfl⟩ | ⟨g, cap, cur, rfl, hg, hh, hc1, hc2, hc3, ht⟩
  · exact .inl ⟨rfl, none, 0, rfl⟩
  · refine .inr ⟨g, 0, cap, rfl, hc1, ?_, fun i u hi => ?_⟩
    · rw [Array.getElem?_eq_some_iff] at hh; exact hh.1
    · have hlt : i < xs.length := by rw [List.getElem?_eq_some_iff] at hi; exact hi.1
      have : cur[i]? = Option.some u := by
        rw [← ht, List.getElem?_take_of_lt (by omega)] at hi
        simpa using hi
      simp [World.cell?, hh, this]
theorem below_grown {B : Nat} {a w w' : World} {v : Value} (h : Below B a w) (hg : w.grownBy w' v.ownBlock) (hB : B ≤ w.heap.size) (hr : ∀ k, v.ownBlock = some k → B ≤ k) : Below B a w' := h.grown hg hB hr
theorem own_base {w : World} {base : Nat} {e : TypeId} {size : Nat} {v : Value} {n : Nat} {xs : List Value} (h : w.ownsRow base e size v n xs) : ∀ k, v.ownBlock = some k → base ≤ k := by
  intro k hk
  rcases h.2 with ⟨rfl, -⟩ | ⟨g, cap, cur, rfl, hg, -⟩
  · simp [Value.ownBlock] at hk
  · simp [Value.ownBlock] at hk; omega
/-- An owned row in a world in which its block has not turned. -/
theorem owns_below {w w' : World} {base B : Nat} {e : TypeId} {size : Nat} {v : Value} {n : Nat} {xs : List Value} (h : w.ownsRow base e size v n xs) (hb : Below B w w') (hB : w.heap.size ≤ B) : w'.ownsRow base e size v n xs := by
  obtain ⟨h1, h2⟩ := h
  refine ⟨h1, ?_⟩
  rcases h2 with h2 | ⟨g, cap, cur, hv, hg, hh, r⟩
  · exact .inl h2
  · refine .inr ⟨g, cap, cur, hv, hg, ?_, r⟩
    rw [hb.block g (by rw [Array.getElem?_eq_some_iff] at hh; have := hh.1; omega)]
    exact hh
/-- Cells behind a store. -/
theorem cell_set {w : World} {b i j : Nat} {u v : Value} (h : w.cell? ⟨b, j, none⟩ = some u) : (w.setCell ⟨b, i, none⟩ v).cell? ⟨b, j, none⟩ = some (if i = j then v else u) := by
  by_cases hij : i = j
  · subst hij
    rw [if_pos rfl]
    exact World.cell?_setCell_same _ _ _ h
  · rw [if_neg hij]
    rw [World.cell?_setCell_other _ _ _ _ (fun e => hij (Addr.mk.inj e).2.1)]
    exact h
/-- A place in a list laid flat. -/
theorem flat_at {α : Type} {f : α → List Value} {s : Nat} (hf : ∀ x, (f x).length = s) : ∀ {l : List α} {k : Nat} {x : α}, l[k]? = some x → ∀ j, j < s → (l.flatMap f)[k * s + j]? = (f x)[j]?
  | [], _, _, h, _, _ => by simp at h
  | a :: l, 0, x, h, j, hj => by
    simp only [List.getElem?_cons_zero, Option.some.injEq] at h
    subst h
    rw [List.flatMap_cons, List.getElem?_append_left (by rw [hf]; omega)]
    simp
  | a :: l, k + 1, x, h, j, hj => by
    rw [List.flatMap_cons, List.getElem?_append_right (by rw [hf, Nat.add_mul]; omega), hf]
    rw [show (k + 1) * s + j - s = k * s + j by rw [Nat.add_mul]; omega]
    exact flat_at hf (by simpa using h) j hj
theorem flat_len {α : Type} {f : α → List Value} {s : Nat} (hf : ∀ x, (f x).length = s) : ∀ l : List α, (l.flatMap f).length = l.length * s
  | [] => by simp
  | a :: l => by rw [List.flatMap_cons, List.length_append, hf, flat_len hf l, List.length_cons, Nat.add_mul]; omega
/-- One new cell, as an append's source. -/
theorem news_one (w : World) (x : Value) (t : TypeId) : ∀ j u, [x][j]? = some u → (w.alloc (.cells #[x] t)).cell? ((⟨w.heap.size, 0, none⟩ : Addr).add j) = some u := by
  intro j u h
  match j, h with
  | 0, h =>
    simp only [List.getElem?_cons_zero, Option.some.injEq] at h
    subst h
    show (w.alloc (.cells #[x] t)).cell? ⟨w.heap.size, 0, none⟩ = some x
    rw [World.cell?_alloc_new]; rfl
  | j + 1, h => simp at h
theorem ones_one {x : Value} (h : x.oneCell' = true) : ∀ u ∈ [x], u.oneCell' = true := by
  intro u hu
  simp only [List.mem_singleton] at hu
  subst hu; exact h
/-- Numbers as cells. -/
def natVals (ns : List Nat) : List Value := ns.map fun n : Nat => .int .i64 (n : Int)
theorem natVals_snoc (ns : List Nat) (n : Nat) : natVals (ns ++ [n]) = natVals ns ++ [.int .i64 (n : Int)] := by unfold natVals; simp
theorem natVals_at {ns : List Nat} {k n : Nat} (h : ns[k]? = some n) : (natVals ns)[k]? = some (.int .i64 (n : Int)) := by unfold natVals; simp [h]
end Go.Proofs.YtljbcclfafndmaaDoor.Kit
