/- Contracts of slices.Clone at an entry, All, and its iterator. -/
import Derived.RangeFuncNested
import Derived.RangeFuncBound
import Derived.RangeFuncCalls
import Derived.RangeFuncLeaves
import Derived.Shelf.Abstract
import Derived.Shelf.RegionOpen
import Derived.WalkKit
import Derived.OwnWalkIn
import Derived.TacticsInMore
import Derived.LoopNIn
import Derived.LoopIn
import Derived.Lib.SliceRun
import Derived.Deep.WholeRow
import Derived.Test.YtljbcclfafndmaaDoorCr
import Derived.Test.YtljbcclfafndmaaDoorRound
namespace Go.Proofs.YtljbcclfafndmaaDoor
open Go.RowKit

attribute [local go_sem] Oper.semAt_some

/-- A slice of no elements at the head of a new row. -/
theorem owns_empty {w : World} {base : Nat} {e : TypeId} {size : Nat} (hB : base ≤ w.heap.size) : (w.alloc (.cells #[] e)).ownsRow base e size (.slice (some ⟨w.heap.size, 0, none⟩) 0 0) 0 [] :=
  ⟨by simp, .inr ⟨w.heap.size, 0, #[], rfl, hB, heap_alloc_last w _, by omega, by unfold maxLen; omega, by simp, by simp⟩⟩
def ClonePost (l : List Cp.C) (w : World) (en : Ending) (w' : World) : Prop := ∃ v, en = .returned v ∧ OwnC w' w.heap.size v l ∧ Below w.heap.size w w'
set_option maxRecDepth 100000 in
set_option maxHeartbeats 400000 in
theorem cclone_some (l : List Cp.C) (ad : Addr) (cap : Nat) (w : World) (hn : l.length * 48 ≤ 140737488355328) (hc : ∀ j u, (l.flatMap cL)[j]? = some u → w.cell? (ad.add j) = some u) : Calls Tryd.prog 34 #[.slice (some ad) l.length cap] w (ClonePost l w) := by
  obtain ⟨i0, hi, hz0, hz1, hz2⟩ := info_parts infoC
  have hnil := fun (W : World) (a : Option Addr) (n c : Nat) => Lib.run_eql_slice_nil (P := Tryd.prog) W 23 46 a n c 0 0 Tryd.underlying23
  have hlt : ∀ j u, (l.flatMap cL)[j]? = some u → (w.alloc (.cells #[] 46)).cell? (ad.add j) = some u := fun j u h => by
    have h2 := hc j u h
    rw [World.cell?_alloc_lt _ _ _ (World.block_lt_of_cell? w _ h2)]
    exact h2
  have HL := hid hlt
  have hlen : (l.flatMap cL).length = l.length * 5 := Kit.flat_len cL_len l
  have HLen := hid hlen
  have h1c : ∀ u ∈ l.flatMap cL, u.oneCell' = true := by
    intro u hu
    rw [List.mem_flatMap] at hu
    obtain ⟨b, -, hb⟩ := hu
    exact ones_c b u hb
  have H1 := hid h1c
  clear hc hlt hlen h1c
  go_enter Tryd.func34, Tryd.ntmps34
  go_wp2_with (at_builtin; go_loud (refine wpList_append_own _ rfl (.tmp 5) (.tmp 6) 23 rfl w.heap.size 46 i0 _ 5 48 Tryd.underlying23 hi hz0 hz1 hz2 rfl (by decide) _ 0 [] rfl (owns_empty (Nat.le_refl _)) ad l.length cap (l.flatMap cL) rfl HLen.out HL.out H1.out (by unfold maxLen; omega) (by omega) (by simp) ?_); intro v1 w1 hown1 hgrow1 _)
  go_ret
  refine ⟨_, rfl, by unfold OwnC; simpa using hown1, Kit.below_grown (by repeat' first | with_reducible exact Below.refl _ _ | with_reducible assumption | with_reducible refine belows_drewN ?_ _ | with_reducible refine Below.drew ?_ | with_reducible refine Below.setCell ?_ ?_ _ | with_reducible refine Below.alloc ?_ ?_ _ | omega | (simp; done) | (simp; omega)) hgrow1 (by simp) (fun k hk => ?_)⟩
  have : some w.heap.size = some k := hk
  exact Nat.le_of_eq (Option.some.inj this)
theorem cclone_nil (c : Nat) (w : World) : Calls Tryd.prog 34 #[.slice none 0 c] w (ClonePost [] w) := by
  have hnil := fun (W : World) (a : Option Addr) (n c : Nat) => Lib.run_eql_slice_nil (P := Tryd.prog) W 23 46 a n c 0 0 Tryd.underlying23
  go_enter Tryd.func34, Tryd.ntmps34
  go_wp2
  go_ret
  exact ⟨_, rfl, ⟨rfl, .inl ⟨rfl, rfl⟩⟩, (by repeat' first | with_reducible exact Below.refl _ _ | with_reducible assumption | with_reducible refine belows_drewN ?_ _ | with_reducible refine Below.drew ?_ | with_reducible refine Below.setCell ?_ ?_ _ | with_reducible refine Below.alloc ?_ ?_ _ | omega | (simp; done) | (simp; omega))⟩
theorem cclone_any (l : List Cp.C) (v : Value) (w : World) (hl : Kit.IsS 5 w v l.length (l.flatMap cL)) (hn : l.length * 48 ≤ 140737488355328) : Calls Tryd.prog 34 #[v] w (ClonePost l w) := by
  rcases hl.2.2 with ⟨h0, a, cap, rfl⟩ | ⟨b, o, cap, rfl, hl, hlt, hc⟩
  · obtain rfl := List.length_eq_zero_iff.1 h0
    cases a with
    | none => exact cclone_nil cap w
    | some ad => exact cclone_some [] ad cap w (by simp) (fun j u h => by simp at h)
  · exact cclone_some l ⟨b, o, none⟩ cap w hn (fun j u h => by rw [Go.WideShapes.add_plain]; exact hc j u h)
/-- The blocks from lo on, ahead of hi, stay as they are. -/
def Kp (lo hi : Nat) (A B : World) : Prop := A.heap.size ≤ B.heap.size ∧ ∀ k, lo ≤ k → k < hi → B.heap[k]? = A.heap[k]?
theorem Kp.refl (lo hi : Nat) (A : World) : Kp lo hi A A := ⟨Nat.le_refl _, fun _ _ _ => rfl⟩
theorem Kp.trans {lo hi : Nat} {A B C : World} (h : Kp lo hi A B) (k : Kp lo hi B C) : Kp lo hi A C := ⟨Nat.le_trans h.1 k.1, fun i h1 h2 => (k.2 i h1 h2).trans (h.2 i h1 h2)⟩
theorem Kp.below {lo hi n : Nat} {A B C : World} (h : Kp lo hi A B) (hb : Below n B C) (hn : hi ≤ n) : Kp lo hi A C := h.trans ⟨hb.size, fun i _ h2 => hb.block i (by omega)⟩
theorem Kp.grown {lo hi : Nat} {A B C : World} {row : Option Nat} (h : Kp lo hi A B) (hg : B.grownBy C row) (hh : hi ≤ B.heap.size) (hr : ∀ k, row = some k → k < lo ∨ hi ≤ k) : Kp lo hi A C :=
  h.trans ⟨hg.size, fun i h1 h2 => hg.block i (by omega) (fun e => by have := hr i e.symm; omega)⟩
theorem Kp.putObj {lo hi : Nat} {w : World} (hn : hi ≤ w.heap.size) (W : World) (l : Nat) (o o' : Obj) (hl : w.heap.size ≤ l) (h : W.heap[l]? = some o) (_ : o.isCells = false) (_ : o.isWalk = false) : Kp lo hi W (W.putObj l o') :=
  (Kp.refl lo hi W).grown (grownBy_putObj' W l o') (by have := (Array.getElem?_eq_some_iff.1 h).1; omega) (fun k e => by cases e; omega)
/-- What All leaves: a function value over a box that holds a copy. -/
def AllPost (l : List Cp.C) (w : World) (e : Ending) (w' : World) : Prop :=
  ∃ v, e = .returned (.func (.func 54) #[] #[.pointer (some ⟨w.heap.size, 0, none⟩)]) ∧ (∀ X, Kp w.heap.size w'.heap.size w' X → Kit.IsS 5 X v l.length (l.flatMap cL) ∧ X.cell? ⟨w.heap.size, 0, none⟩ = some v) ∧ Below w.heap.size w w' ∧ w.heap.size < w'.heap.size
theorem owns_at {w w' : World} {base : Nat} {e : TypeId} {size : Nat} {v : Value} {n : Nat} {xs : List Value} (h : w.ownsRow base e size v n xs) (hk : ∀ k, base ≤ k → k < w.heap.size → w'.heap[k]? = w.heap[k]?) : w'.ownsRow base e size v n xs := by
  refine ⟨h.1, ?_⟩
  rcases h.2 with h2 | ⟨g, cap, cur, hv, hg, hh, k⟩
  · exact .inl h2
  · exact .inr ⟨g, cap, cur, hv, hg, (hk g hg (Array.getElem?_eq_some_iff.1 hh).1).trans hh, k⟩
set_option maxRecDepth 100000 in
theorem all_any (l : List Cp.C) (v : Value) (w : World) (hl : Kit.IsS 5 w v l.length (l.flatMap cL)) (hn : l.length * 48 ≤ 140737488355328) : Calls Tryd.prog 39 #[v] w (AllPost l w) := by
  have HB := hid (fun X (h : Below w.heap.size w X) => hl.below h (Nat.le_refl _))
  obtain ⟨a, cap, hv⟩ := hl.len
  subst hv
  clear hl
  go_enter Tryd.func39, Tryd.ntmps39
  go_wp2_with (go_at_call 34; refine (cclone_any l _ _ (HB.out _ (by repeat' first | with_reducible exact Below.refl _ _ | with_reducible assumption | with_reducible refine belows_drewN ?_ _ | with_reducible refine Below.drew ?_ | with_reducible refine Below.setCell ?_ ?_ _ | with_reducible refine Below.alloc ?_ ?_ _ | omega | (simp; done) | (simp; omega))) hn).mono ?_; rintro e w1 ⟨v1, rfl, o1, hb1⟩; obtain ⟨a1, cap1, hv1⟩ := (Kit.isS_of_owns o1 (by omega)).len; subst hv1; obtain ⟨hcc, hff⟩ := bcell hb1; have hz1 := hb1.size; simp only [World.size_alloc] at hz1)
  go_ret
  have hbox : Boxed w1 w.heap.size 23 (.slice a l.length cap) := (hb1.block w.heap.size (by simp)).trans (Boxed.new w _ _)
  have hb2 := (belows (a := w) (B := w.heap.size) (b := w.alloc (.cells #[.slice a l.length cap] 23)) (by repeat' first | with_reducible exact Below.refl _ _ | with_reducible assumption | with_reducible refine belows_drewN ?_ _ | with_reducible refine Below.drew ?_ | with_reducible refine Below.setCell ?_ ?_ _ | with_reducible refine Below.alloc ?_ ?_ _ | omega | (simp; done) | (simp; omega)) hb1 (by simp)).setCell (p := ⟨w.heap.size, 0, none⟩) (Nat.le_refl _) (.slice a1 l.length cap1)
  have hbx2 := hbox.set (.slice a1 l.length cap1)
  have o2 : OwnC (w1.setCell ⟨w.heap.size, 0, none⟩ (.slice a1 l.length cap1)) (w.heap.size + 1) (.slice a1 l.length cap1) l := owns_at (by have h9 := o1; unfold OwnC at h9; simpa using h9) (fun k h1 _ => Below.heap_setCell _ _ _ k (fun e => by have : k = w.heap.size := e; omega))
  have hsz : (w1.setCell ⟨w.heap.size, 0, none⟩ (.slice a1 l.length cap1)).heap.size = w1.heap.size := by simp
  refine ⟨_, rfl, fun X hX => ⟨Kit.isS_of_owns (owns_at o2 fun k h1 h2 => hX.2 k (by omega) h2) (by omega), ?_⟩, hb2, by omega⟩
  have h3 := hX.2 w.heap.size (Nat.le_refl _) (by omega)
  have h4 : Boxed X w.heap.size 23 (.slice a1 l.length cap1) := h3.trans hbx2
  exact h4.cell
/-- An entry that is told, and its index. -/
abbrev Tx (l : List Cp.C) := { x : Nat × Cp.C // l[x.1]? = some x.2 ∧ x.2.t ≠ 0 }
/-- What is told of the first so many entries. -/
def told (l : List Cp.C) : Nat → List (Tx l)
  | 0 => []
  | k + 1 => told l k ++ (match h : l[k]? with | some c => if hc : c.t = 0 then [] else [⟨(k, c), h, hc⟩] | none => [])
theorem told_yes {l : List Cp.C} {k : Nat} {c : Cp.C} (h : l[k]? = some c) (hc : c.t ≠ 0) : told l (k + 1) = told l k ++ [⟨(k, c), h, hc⟩] := by
  show told l k ++ _ = _
  congr 1
  split
  · rename_i d hd
    obtain rfl := Option.some.inj (hd.symm.trans h)
    rw [dif_neg hc]
  · rename_i hd
    rw [hd] at h
    cases h
theorem told_no {l : List Cp.C} {k : Nat} {c : Cp.C} (h : l[k]? = some c) (hc : c.t = 0) : told l (k + 1) = told l k := by
  show told l k ++ _ = _
  split
  · rename_i d hd
    obtain rfl := Option.some.inj (hd.symm.trans h)
    rw [dif_pos hc, List.append_nil]
  · rw [List.append_nil]
theorem told_len (l : List Cp.C) : ∀ k, (told l k).length ≤ k
  | 0 => Nat.le_refl _
  | k + 1 => by
    show (told l k ++ _).length ≤ _
    have := told_len l k
    rw [List.length_append]
    split
    · split <;> simp <;> omega
    · simp; omega
def entE {l : List Cp.C} (x : Tx l) : Array Value := #[.int .i64 (x.1.1 : Int), .agg (cC x.1.2)]
theorem abides_new {β : Type} {B : Nat} {J : β → World → Prop} (h : AbidesFrom B J) {s : β} {W W' : World} (hs : J s W) (hb : Below W.heap.size W W') : J s W' :=
  h s W W' none hs ⟨hb.os, hb.tape, hb.output, hb.size, fun i hi _ => hb.block i hi⟩ (fun r e => by cases e)
set_option maxRecDepth 100000 in
set_option maxHeartbeats 2000000 in
theorem all1_stops (l : List Cp.C) (v : Value) (lo Bs n : Nat) (w : World) (hn : 1 ≤ n) (hb : ∀ X, Kp lo w.heap.size w X → Kit.IsS 5 X v l.length (l.flatMap cL) ∧ X.cell? ⟨Bs, 0, none⟩ = some v) :
    SeqStopsK Fence.wide n Tryd.prog 54 #[.pointer (some ⟨Bs, 0, none⟩)] entE (Kp lo w.heap.size) (fun ys => ys = told l l.length) (fun ys => ∃ k, k ≤ l.length ∧ ys = told l k) l.length w := fun D J Jx W hW hJ _ hY h0 => by
  have HB := hid hb
  obtain ⟨a, cap, hv⟩ := (hb w (Kp.refl _ _ _)).1.len
  subst hv
  have hlen := (hb w (Kp.refl _ _ _)).1.2.1
  have hKW : Kp lo w.heap.size w W := (Kp.refl _ _ _).below hW (Nat.le_refl _)
  have hcW := (hb W hKW).2
  clear hb
  refine callsIn_of_wp Tryd.func54 rfl trivial ?_ rfl
  simp only [Tryd.ntmps54, List.size_toArray, List.length_cons, List.length_nil, Nat.reduceAdd, Nat.reduceSub, Array.replicate_succ, Array.replicate_zero, List.push_toArray, List.append_toArray, List.nil_append, List.cons_append]
  gi_wp2
  gi_loopw [7] (fun i wr => ∃ k : Nat, k ≤ l.length ∧ i = .int .i64 k ∧ J (told l k) wr ∧ W.heap.size ≤ wr.heap.size ∧ Kp lo w.heap.size w wr) (fun i _ => l.length - (intOf i).toNat)
  case atStart => exact ⟨0, by omega, rfl, h0, Nat.le_refl _, hKW⟩
  case round =>
    obtain ⟨k, hk, rfl, hJs, hzW, hbl⟩ := hrel
    have hzr := hbl.1
    by_cases hlt : k < l.length
    · obtain ⟨⟨ct, cs, cn, ca, cb⟩, hx⟩ : ∃ x, l[k]? = some x := ⟨l[k], List.getElem?_eq_getElem hlt⟩
      obtain ⟨b, o, cap', hv, hbb, c0, c1, c2, c3, c4⟩ := c_at (HB.out wr hbl).1 hx
      obtain ⟨rfl, -, rfl⟩ := Value.slice.inj hv
      dsimp only at c0 c1 c2 c3 c4
      have hki : (k : Int) < (l.length : Int) := by omega
      by_cases ht : ct = 0
      · have HT := hid (told_no hx ht)
        have hb1 : (ct != 0) = false := by simpa using ht
        have HJ := hid (fun X (h : Below wr.heap.size wr X) => abides_new hJ hJs h)
        clear hx hv ht
        gi_wp2
        refine ⟨fun _ h => (by cases h), ?_⟩
        gi_wp2
        go_roundw
        case rel => exact ⟨k + 1, by omega, by go_num, by rw [HT.out]; exact HJ.out _ (by repeat' first | with_reducible exact Below.refl _ _ | with_reducible assumption | with_reducible refine belows_drewN ?_ _ | with_reducible refine Below.drew ?_ | with_reducible refine Below.setCell ?_ ?_ _ | with_reducible refine Below.alloc ?_ ?_ _ | omega | (simp; done) | (simp; omega)), by simp only [World.size_alloc]; omega, hbl.below ((Below.refl wr.heap.size wr).alloc (Nat.le_refl _) _) hzr⟩
        case measure => simp [intOf]; omega
      · have HT := hid (told_yes hx ht)
        have hb1 : (ct != 0) = true := by simpa using ht
        have hln : (told l k).length < l.length := by have := told_len l k; omega
        have HY := hid (fun X (h : Below wr.heap.size wr X) => hY (told l k) ⟨(k, ⟨ct, cs, cn, ca, cb⟩), hx, ht⟩ X (abides_new hJ hJs h) hln)
        clear hv
        obtain ⟨fn, tmps, assign, body, hy, hR⟩ := HY.out (wr.alloc (.cells #[.int .i64 ct, .string cs, .int .i64 cn, .int .i64 ca, .int .i64 cb] 46)) (by repeat' first | with_reducible exact Below.refl _ _ | with_reducible assumption | with_reducible refine belows_drewN ?_ _ | with_reducible refine Below.drew ?_ | with_reducible refine Below.setCell ?_ ?_ _ | with_reducible refine Below.alloc ?_ ?_ _ | omega | (simp; done) | (simp; omega))
        unfold entE cC at hy
        dsimp only at hy
        gi_wp2
        refine hR.mono ?_
        rintro e W3 (⟨rfl, hJ3, hk3⟩ | ⟨rfl, hJx3⟩)
        · gi_wp2
          go_roundw
          case rel => exact ⟨k + 1, by omega, by go_num, by rw [HT.out]; exact hJ3, (by have := hk3.1; simp only [World.size_alloc] at this; omega), (hbl.below ((Below.refl wr.heap.size wr).alloc (Nat.le_refl _) _) hzr).trans hk3⟩
          case measure => simp [intOf]; omega
        · gi_wp2
          refine bodyPost_ret (results_none rfl _ _ _) rfl ?_
          exact ⟨⟨_, rfl⟩, .inr ⟨_, ⟨k + 1, by omega, HT.out.symm⟩, hJx3⟩⟩
    · obtain rfl : k = l.length := by omega
      gi_wp2
      refine bodyPost_end (results_none rfl _ _ _) rfl ?_
      exact ⟨⟨_, rfl⟩, .inl ⟨_, rfl, hJs⟩⟩
end Go.Proofs.YtljbcclfafndmaaDoor
