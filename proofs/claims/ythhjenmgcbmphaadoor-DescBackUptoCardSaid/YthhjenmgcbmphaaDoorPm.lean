/- Contracts of printReturn and PrintMethod. -/
import Derived.Test.YthhjenmgcbmphaaDoorDb
import Derived.Test.YthhjenmgcbmphaaDoorPf
import Derived.Lib.AppendStr
import Derived.Laws.BytesArg
import Derived.Deep.RegionWith
namespace Go.Proofs.YthhjenmgcbmphaaDoor
open Go.RowKit

/-- What stands for what is returned, or that nothing does. -/
def prR (r : Ds.Ty) : List UInt8 × Int := if r = (0, []) then ([86], 0) else prOut r
set_option maxRecDepth 100000 in
set_option maxHeartbeats 1000000 in
theorem printReturn_any (k : Int) (m : ByteArray) (w : World) (hk : (Lit.int .i64 k).wf = true) (hs : m.size ≤ 140737488351232) :
    Calls Tryd.prog 31 #[.agg #[.int .i64 k, .string m]] w fun e w' => e = .returned (.tuple #[.string ⟨(prR (k, Ds.bl m)).1.toArray⟩, .int .i64 (prR (k, Ds.bl m)).2]) ∧ Below w.heap.size w w' := by
  have HP0 := fun W => print_any k m W hk hs
  unfold prR
  by_cases h0 : k = 0
  · subst h0
    by_cases hm : Ds.bl m = []
    · obtain rfl : m = ⟨#[]⟩ := ba_ext hm
      rw [if_pos rfl]
      clear HP0 hm
      go_enter Tryd.func31, Tryd.ntmps31
      go_wp2
      go_ret2
      exact ⟨rfl, (by repeat' first | with_reducible exact Below.refl _ _ | with_reducible assumption | with_reducible refine belows_drewN ?_ _ | with_reducible refine Below.drew ?_ | with_reducible refine Below.setCell ?_ ?_ _ | with_reducible refine Below.alloc ?_ ?_ _ | omega | (simp; done) | (simp; omega))⟩
    · rw [if_neg (by intro e; exact hm (Prod.mk.inj e).2)]
      have h1 : (m.toList.isEmpty) = false := by
        rw [ByteArray.toList_eq]
        cases hb : m.data.toList with
        | nil => exact absurd hb hm
        | cons => rfl
      obtain ⟨pa, hpa⟩ : ∃ x, x = prOut (0, Ds.bl m) := ⟨_, rfl⟩
      rw [← hpa] at HP0 ⊢
      have HP := hid HP0
      clear HP0 hm hpa
      go_enter Tryd.func31, Tryd.ntmps31
      go_wp2_with (go_at_call 15; refine (HP.out _).mono ?_; rintro e w1 ⟨rfl, hb1⟩)
      go_ret2
      exact ⟨rfl, belows (B := w.heap.size) (a := w) (by repeat' first | with_reducible exact Below.refl _ _ | with_reducible assumption | with_reducible refine belows_drewN ?_ _ | with_reducible refine Below.drew ?_ | with_reducible refine Below.setCell ?_ ?_ _ | with_reducible refine Below.alloc ?_ ?_ _ | omega | (simp; done) | (simp; omega)) hb1 (by simp)⟩
  · rw [if_neg (by intro e; exact h0 (Prod.mk.inj e).1)]
    obtain ⟨pa, hpa⟩ : ∃ x, x = prOut (k, Ds.bl m) := ⟨_, rfl⟩
    rw [← hpa] at HP0 ⊢
    have HP := hid HP0
    clear HP0 hpa
    go_enter Tryd.func31, Tryd.ntmps31
    go_wp2_with (go_at_call 15; refine (HP.out _).mono ?_; rintro e w1 ⟨rfl, hb1⟩)
    go_ret2
    exact ⟨rfl, belows (B := w.heap.size) (a := w) (by repeat' first | with_reducible exact Below.refl _ _ | with_reducible assumption | with_reducible refine belows_drewN ?_ _ | with_reducible refine Below.drew ?_ | with_reducible refine Below.setCell ?_ ?_ _ | with_reducible refine Below.alloc ?_ ?_ _ | omega | (simp; done) | (simp; omega)) hb1 (by simp)⟩
/-- A text's bytes in memory of its own. -/
abbrev bv (c : UInt8) : Value := .int .u8 (c.toNat : Int)
def OwnB (w : World) (base : Nat) (v : Value) (l : List UInt8) : Prop := w.ownsRow base 5 1 v l.length (l.map bv)
theorem strC (l : List UInt8) : Lib.strCells ⟨l.toArray⟩ = l.map bv := rfl
theorem str_size (l : List UInt8) : (⟨l.toArray⟩ : ByteArray).size = l.length := by show l.toArray.size = _; simp
theorem OwnB.app {w : World} {base : Nat} {v : Value} {a b : List UInt8} (h : w.ownsRow base 5 1 v (a.length + (⟨b.toArray⟩ : ByteArray).size) (a.map bv ++ Lib.strCells ⟨b.toArray⟩)) : OwnB w base v (a ++ b) := by
  unfold OwnB
  rw [List.length_append, List.map_append]
  rwa [str_size, strC] at h
theorem own_new (w : World) (base : Nat) (c : UInt8) (hb : base ≤ w.heap.size) : OwnB (w.alloc (.cells #[bv c] 5)) base (.slice (some ⟨w.heap.size, 0, none⟩) 1 1) [c] :=
  ⟨rfl, .inr ⟨w.heap.size, 1, #[bv c], rfl, hb, World.alloc_heap_new _ _, Nat.le_refl _, by unfold maxLen; omega, rfl, rfl⟩⟩
theorem own_conv {w : World} {base : Nat} {v : Value} {l : List UInt8} (h : OwnB w base v l) : (convert 57 9 v).run Tryd.prog w = .ok (.string ⟨l.toArray⟩) w := by
  obtain ⟨hl, h⟩ := h
  rcases h with ⟨rfl, hn⟩ | ⟨g, cap, cur, rfl, hg, hh, hc1, hc2, hc3, ht⟩
  · obtain rfl : l = [] := List.length_eq_zero_iff.1 hn
    exact run_convert_bytes_nil w _ _ Tryd.underlying57 Tryd.underlying5 0 0 _ Tryd.underlying9
  · have := run_convert_bytes_arg (P := Tryd.prog) w 57 5 Tryd.underlying57 Tryd.underlying5 g 0 l.length cap (l.map fun c => (c.toNat : Int)) (by simp) (fun i hi => by
      have : cur[i]? = some (bv l[i]) := by
        have h1 : (l.map bv)[i]? = some (bv l[i]) := by simp [hi]
        rw [← ht, List.getElem?_take_of_lt (by omega)] at h1
        simpa using h1
      simp [World.cell?, hh, this, hi]) 9 Tryd.underlying9
    rw [this]
    congr 2
    unfold strOfNums
    congr 2
    rw [List.map_map]
    conv => rhs; rw [← List.map_id l]
    refine List.map_congr_left fun c _ => ?_
    show UInt8.ofNat ((c.toNat : Int)).toNat = c
    simp
theorem A.infoB : (Tryd.prog.info? 5).map (fun i => (i.zero, i.size, i.bytes)) = some (some (.int .u8 0), 1, 1) := by kernel_rfl
/-- The box that holds what is returned. -/
def TB (w : World) (B : Nat) (k : Int) (m : ByteArray) : Prop := w.heap[B]? = some (.cells #[.int .i64 k, .string m] 23 (0, 0))
theorem TB.new (w : World) (k : Int) (m : ByteArray) : TB (w.alloc (.cells #[.int .i64 k, .string m] 23)) w.heap.size k m := World.alloc_heap_new w _
theorem TB.sz {w : World} {B : Nat} {k : Int} {m : ByteArray} (h : TB w B k m) : B < w.heap.size := (Array.getElem?_eq_some_iff.1 h).1
theorem TB.below {w w' : World} {B n : Nat} {k : Int} {m : ByteArray} (h : TB w B k m) (hb : Below n w w') (hn : B < n) : TB w' B k m := (hb.block B hn).trans h
theorem TB.grown {w w' : World} {B : Nat} {k : Int} {m : ByteArray} {row : Option Nat} (h : TB w B k m) (hg : w.grownBy w' row) (hne : row ≠ some B) : TB w' B k m := (hg.block B h.sz (fun e => hne e.symm)).trans h
theorem TB.facts {w : World} {B : Nat} {k : Int} {m : ByteArray} (h : TB w B k m) : w.cell? ⟨B, 0, none⟩ = some (.int .i64 k) ∧ w.cell? ⟨B, 1, none⟩ = some (.string m) := by
  refine ⟨?_, ?_⟩ <;> simp [World.cell?, show w.heap[B]? = _ from h]
/-- Types as a call may be handed them. -/
def GoodT (y : Ds.Ty) : Prop := (Lit.int .i64 y.1).wf = true ∧ y.2.length ≤ 1048576
/-- What the loop over the arguments has come to. -/
def ArgsP (l : List Ds.Ty) (j : Nat) : Prop := ∀ y ∈ l.take j, IsTy y
theorem pm_bad {r : Ds.Ty} {a : List Ds.Ty} {j : Nat} {y : Ds.Ty} (h : a[j]? = some y) (hy : ¬ IsTy y) : pmOut r a = ([], 20) := by
  unfold pmOut
  rw [if_neg (fun e => hy (e.1 y (List.mem_of_getElem? h)))]
theorem pm_badr {r : Ds.Ty} {a : List Ds.Ty} (h : (prR r).2 ≠ 0) : pmOut r a = ([], 20) ∧ (prR r).2 = 20 := by
  unfold prR at h
  by_cases h0 : r = (0, [])
  · rw [if_pos h0] at h; exact absurd rfl h
  · rw [if_neg h0] at h
    unfold prOut at h
    by_cases h1 : fdOut (draftOf r) = (r, 0)
    · rw [if_pos h1] at h; exact absurd rfl h
    · refine ⟨?_, ?_⟩
      · unfold pmOut
        rw [if_neg (fun e => e.2.elim h0 h1)]
      · unfold prR prOut
        rw [if_neg h0, if_neg h1]
theorem pr_ok {r : Ds.Ty} (h : (prR r).2 = 0) : (prR r).1 = retT r ∧ (r = (0, []) ∨ IsTy r) := by
  unfold prR at h ⊢
  unfold retT
  by_cases h0 : r = (0, [])
  · rw [if_pos h0, if_pos h0]; exact ⟨rfl, .inl h0⟩
  · rw [if_neg h0] at h ⊢
    rw [if_neg h0]
    unfold prOut at h ⊢
    by_cases h1 : fdOut (draftOf r) = (r, 0)
    · rw [if_pos h1]; exact ⟨rfl, .inr h1⟩
    · rw [if_neg h1] at h; exact absurd h (by decide)
theorem prR_len (r : Ds.Ty) : (prR r).1.length ≤ 255 := by
  unfold prR
  split
  · decide
  · exact prOut_len r
theorem args_step {l : List Ds.Ty} {j : Nat} {y : Ds.Ty} (h : l[j]? = some y) (hy : IsTy y) (ha : ArgsP l j) : ArgsP l (j + 1) := by
  intro z hz
  rw [List.take_add_one, h] at hz
  rcases List.mem_append.1 hz with hz | hz
  · exact ha z hz
  · simp at hz; rw [hz]; exact hy
theorem text_step {l : List Ds.Ty} {j : Nat} {y : Ds.Ty} (h : l[j]? = some y) : (l.take (j + 1)).flatMap draftOf = (l.take j).flatMap draftOf ++ draftOf y := by
  rw [List.take_add_one, h, List.flatMap_append]
  simp
theorem isTy_len {y : Ds.Ty} (h : IsTy y) : (draftOf y).length ≤ 255 := fdOut_len h
theorem text_len : ∀ {l : List Ds.Ty}, (∀ y ∈ l, IsTy y) → (l.flatMap draftOf).length ≤ 255 * l.length
  | [], _ => by simp
  | y :: l, h => by
    have h1 := isTy_len (h y (by simp))
    have h2 := text_len (l := l) fun z hz => h z (by simp [hz])
    rw [List.flatMap_cons, List.length_append, List.length_cons]
    omega
theorem chainX {b c : World} {o : Obj} (h2 : Below (b.alloc o).heap.size (b.alloc o) c) : Below b.heap.size b c := belows ((Below.refl _ b).alloc (Nat.le_refl _) o) h2 (by rw [World.size_alloc]; omega)
theorem own_snoc {w : World} {base : Nat} {v : Value} {a : List UInt8} {c : UInt8} (h : w.ownsRow base 5 1 v (a.length + 1) (a.map bv ++ [.int .u8 (c.toNat : Int)])) : OwnB w base v (a ++ [c]) := by
  unfold OwnB
  rw [List.length_append, List.map_append]
  exact h
end Go.Proofs.YthhjenmgcbmphaaDoor
