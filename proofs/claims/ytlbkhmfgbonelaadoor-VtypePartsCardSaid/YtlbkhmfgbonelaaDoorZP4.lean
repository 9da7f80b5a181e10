/- Own texts for the claim, part 4. -/
import Derived.Test.YtlbkhmfgbonelaaDoorZP3
import Derived.Shelf.SlSortCmp.Whole1
import Derived.Lib.QuietBelow
import Derived.Deep.RegionHeld3
import Derived.Deep.Upon
namespace Go.Proofs.YtlbkhmfgbonelaaDoor
open Go Go.RowKit
open Kit (natVals)

abbrev strV (N : List ByteArray) : List Value := N.map Value.string
abbrev intV (S : List Int) : List Value := S.map (Value.int .i64)
/-- The document's hierarchy with its rows in sight. -/
structure RX (w : World) (base rb : Nat) (nv sv : Value) (N : List ByteArray) (S : List Int) : Prop where
  box : w.heap[rb]? = some (.cells #[nv, sv] 81 (0, 0))
  nms : w.ownsRow base 9 1 nv N.length (strV N)
  sup : w.ownsRow base 3 1 sv S.length (intV S)
  lb : base ≤ rb
section
variable {w w0 w1 w2 : World} {base rb : Nat} {nv sv : Value} {N : List ByteArray} {S : List Int}
theorem RX.rm (h : RX w base rb nv sv N S) : RM w base rb N S := ⟨⟨nv, sv, h.box, h.nms, h.sup⟩, h.lb⟩
theorem RX.lt (h : RX w base rb nv sv N S) : rb < w.heap.size := (Array.getElem?_eq_some_iff.1 h.box).1
theorem RX.below (h : RX w base rb nv sv N S) (hb : Below w.heap.size w w1) : RX w1 base rb nv sv N S :=
  ⟨(hb.block _ h.lt).trans h.box, Kit.owns_below h.nms hb (Nat.le_refl _), Kit.owns_below h.sup hb (Nat.le_refl _), h.lb⟩
/-- One more name. -/
theorem RX.name (h : RX w base rb nv sv N S) (hB : Below base w0 w) (hw : base ≤ w.heap.size) {u : Value} {x : ByteArray} (hb : Below w.heap.size w w1) (hg : w1.grownBy w2 nv.ownBlock)
    (ho : w2.ownsRow base 9 1 u (N.length + 1) (strV N ++ [.string x])) :
    w2.cell? ⟨rb, 0, none⟩ = some nv ∧ w2.frozen? ⟨rb, 0, none⟩ = false ∧ RX (w2.setCell ⟨rb, 0, none⟩ u) base rb u sv (N ++ [x]) S ∧ Below base w0 (w2.setCell ⟨rb, 0, none⟩ u) ∧ w.heap.size ≤ (w2.setCell ⟨rb, 0, none⟩ u).heap.size := by
  have hc := (Chg.of_below (S := fun i => nv.ownBlock = some i) hb).grown hg (fun j e => .inl e)
  have hbx : BX w2 rb #[nv, sv] 81 := BX.chg (w := w) h.box hc (own_unlike_box h.nms h.box (by decide))
  have hS : Chg (fun i => i = rb) w2 (w2.setCell ⟨rb, 0, none⟩ u) := (Chg.refl (fun k => k = rb) w2).set (p := ⟨rb, 0, none⟩) (.inl rfl) u
  have hA : Chg (fun i => nv.ownBlock = some i ∨ i = rb) w (w2.setCell ⟨rb, 0, none⟩ u) := (hc.mono (T := fun i => nv.ownBlock = some i ∨ i = rb) (fun i _ e => .inl e)).set (.inl (.inr rfl)) _
  refine ⟨hbx.cell 0, hbx.frozen 0, ⟨box_set hbx _ _, ?_, owns_chg (owns_chg h.sup hc (own_unlike h.sup h.nms (by decide))) hS (fun k e e2 => own_unlike_box h.sup h.box (by decide) (e2 ▸ e)), h.lb⟩, hB.trans (hA.to_below (fun j e => ?_) hw), hA.size⟩
  · have e1 : (N ++ [x]).length = N.length + 1 := by simp
    have e2 : strV (N ++ [x]) = strV N ++ [.string x] := by simp
    rw [e1, e2]
    exact owns_chg ho hS (fun k e e2 => own_unlike_box ho hbx (by decide) (e2 ▸ e))
  · rcases e with e | rfl
    · exact Kit.own_base h.nms j e
    · exact h.lb
/-- One more super. -/
theorem RX.super (h : RX w base rb nv sv N S) (hB : Below base w0 w) (hw : base ≤ w.heap.size) {u : Value} {x : Int} (hb : Below w.heap.size w w1) (hg : w1.grownBy w2 sv.ownBlock)
    (ho : w2.ownsRow base 3 1 u (S.length + 1) (intV S ++ [.int .i64 x])) :
    w2.cell? ⟨rb, 1, none⟩ = some sv ∧ w2.frozen? ⟨rb, 1, none⟩ = false ∧ RX (w2.setCell ⟨rb, 1, none⟩ u) base rb nv u N (S ++ [x]) ∧ Below base w0 (w2.setCell ⟨rb, 1, none⟩ u) ∧ w.heap.size ≤ (w2.setCell ⟨rb, 1, none⟩ u).heap.size := by
  have hc := (Chg.of_below (S := fun i => sv.ownBlock = some i) hb).grown hg (fun j e => .inl e)
  have hbx : BX w2 rb #[nv, sv] 81 := BX.chg (w := w) h.box hc (own_unlike_box h.sup h.box (by decide))
  have hS : Chg (fun i => i = rb) w2 (w2.setCell ⟨rb, 1, none⟩ u) := (Chg.refl (fun k => k = rb) w2).set (p := ⟨rb, 1, none⟩) (.inl rfl) u
  have hA : Chg (fun i => sv.ownBlock = some i ∨ i = rb) w (w2.setCell ⟨rb, 1, none⟩ u) := (hc.mono (T := fun i => sv.ownBlock = some i ∨ i = rb) (fun i _ e => .inl e)).set (.inl (.inr rfl)) _
  refine ⟨hbx.cell 1, hbx.frozen 1, ⟨box_set hbx _ _, owns_chg (owns_chg h.nms hc (own_unlike h.nms h.sup (by decide))) hS (fun k e e2 => own_unlike_box h.nms h.box (by decide) (e2 ▸ e)), ?_, h.lb⟩, hB.trans (hA.to_below (fun j e => ?_) hw), hA.size⟩
  · have e1 : (S ++ [x]).length = S.length + 1 := by simp
    have e2 : intV (S ++ [x]) = intV S ++ [.int .i64 x] := by simp
    rw [e1, e2]
    exact owns_chg ho hS (fun k e e2 => own_unlike_box ho hbx (by decide) (e2 ▸ e))
  · rcases e with e | rfl
    · exact Kit.own_base h.sup j e
    · exact h.lb
end
theorem lines_at {w : World} {v : Value} {l : List Hi.Ln} (h : Kit.IsS 2 w v l.length (l.flatMap lnL)) {k : Nat} {x : Hi.Ln} (hx : l[k]? = some x) : ∃ b o p, v = .slice (some ⟨b, o, none⟩) l.length p ∧ b < w.heap.size ∧ w.cell? ⟨b, o + k * 2, none⟩ = some (.string x.1) ∧ w.cell? ⟨b, o + k * 2 + 1, none⟩ = some (.string x.2) := by
  have hk := (List.getElem?_eq_some_iff.1 hx).1
  obtain ⟨b, o, cap, h1, -, h3, h4⟩ := h.some (by omega)
  refine ⟨b, o, cap, h1, h3, ?_, ?_⟩
  · exact h4 (k * 2) _ (by have := Kit.flat_at lnL_len hx 0 (by omega); simpa [lnL] using this)
  · have := h4 (k * 2 + 1) (.string x.2) (by have := Kit.flat_at lnL_len hx 1 (by omega); simpa [lnL] using this)
    rw [Nat.add_assoc]
    exact this
/-- The supers of the classes that are built in. -/
def blS : List Int := [-1, 0, 1, 1, 1, 1, 1, 1]
/-- Supers, as the document writes them. -/
def supS (N : List ByteArray) (l : List Hi.Ln) : List Int := blS ++ l.map fun x => idxI x.2 N
theorem supS_at {l : List Hi.Ln} (hok : ∀ k x, 1 ≤ k → (Hi.bl ++ l)[k]? = some x → Hi.idx x.2 (Hi.nms (Hi.bl ++ l)) ≠ none) {k : Nat} (hk : k < (Hi.bl ++ l).length) : (supS (Hi.nms (Hi.bl ++ l)) l)[k]? = some (if k = 0 then -1 else ((Hi.sup (Hi.bl ++ l) k : Nat) : Int)) := by
  have hO : ∀ M : List ByteArray, Hi.idx Hi.bO (Hi.bO :: M) = some 0 := fun M => by show (if Hi.bO = Hi.bO then some 0 else _) = _; rw [if_pos rfl]
  have hT : ∀ M : List ByteArray, Hi.idx Hi.bT (Hi.bO :: Hi.bT :: M) = some 1 := fun M => by
    show (if Hi.bO = Hi.bT then some 0 else (if Hi.bT = Hi.bT then some 0 else _).map (· + 1)) = _
    rw [if_neg (by decide), if_pos rfl]; rfl
  unfold supS
  by_cases h8 : k < 8
  · rw [List.getElem?_append_left (by exact h8)]
    have e : ∀ j, j < 8 → (Hi.bl ++ l)[j]? = Hi.bl[j]? := fun j hj => List.getElem?_append_left hj
    unfold Hi.sup
    rw [e k h8]
    match k, h8 with
    | 0, _ => rfl
    | 1, _ => show some 0 = some ((((Hi.idx Hi.bO (Hi.nms (Hi.bl ++ l))).getD 0 : Nat)) : Int); rw [show Hi.nms (Hi.bl ++ l) = Hi.bO :: Hi.nms (Hi.bl.tail ++ l) from rfl, hO]; rfl
    | 2, _ | 3, _ | 4, _ | 5, _ | 6, _ | 7, _ => show some 1 = some ((((Hi.idx Hi.bT (Hi.nms (Hi.bl ++ l))).getD 0 : Nat)) : Int); rw [show Hi.nms (Hi.bl ++ l) = Hi.bO :: Hi.bT :: Hi.nms (Hi.bl.tail.tail ++ l) from rfl, hT]; rfl
  · have h8l : blS.length = 8 := rfl
    rw [List.getElem?_append_right (by rw [h8l]; omega), h8l, List.getElem?_map, if_neg (by omega)]
    have e : (Hi.bl ++ l)[k]? = l[k - 8]? := by rw [List.getElem?_append_right (by rw [Hi.bl_len]; omega), Hi.bl_len]
    unfold Hi.sup
    rw [e]
    rw [List.length_append, Hi.bl_len] at hk
    obtain ⟨x, hx⟩ : ∃ x, l[k - 8]? = some x := ⟨_, List.getElem?_eq_getElem (by omega)⟩
    rw [hx]
    have h1 := hok k x (by omega) (e.trans hx)
    simp only [Option.map_some]
    unfold idxI
    cases hi : Hi.idx x.2 (Hi.nms (Hi.bl ++ l)) with
    | none => exact absurd hi h1
    | some j => rfl
end Go.Proofs.YtlbkhmfgbonelaaDoor
namespace Go.Proofs.YtlbkhmfgbonelaaDoor
open Go Go.RowKit
open Ty (bl mk br T)
def tyL (t : T) : List Value := [.int .i64 t.k, .string t.n]
/-- A list of types in memory. -/
def TyS (w : World) (v : Value) (l : List T) : Prop := Kit.IsS 2 w v l.length (l.flatMap tyL)
theorem TyS.below {w w' : World} {v : Value} {l : List T} (h : TyS w v l) (hb : Below w.heap.size w w') : TyS w' v l := Kit.IsS.below h hb (Nat.le_refl _)
theorem TyS.at {w : World} {v : Value} {l : List T} (h : TyS w v l) {k : Nat} {x : T} (hx : l[k]? = some x) : ∃ b o p, v = .slice (some ⟨b, o, none⟩) l.length p ∧ b < w.heap.size ∧ w.cell? ⟨b, o + k * 2, none⟩ = some (.int .i64 x.k) ∧ w.cell? ⟨b, o + k * 2 + 1, none⟩ = some (.string x.n) := by
  have hk : k < l.length := (List.getElem?_eq_some_iff.1 hx).1
  obtain ⟨b, o, p, rfl, -, hb, hc⟩ := Kit.IsS.some h (by omega)
  refine ⟨b, o, p, rfl, hb, ?_, ?_⟩
  · exact hc (k * 2) _ ((Kit.flat_at (f := tyL) (s := 2) (fun _ => rfl) hx 0 (by omega)).trans rfl)
  · have := hc (k * 2 + 1) _ ((Kit.flat_at (f := tyL) (s := 2) (fun _ => rfl) hx 1 (by omega)).trans rfl)
    rwa [← Nat.add_assoc] at this
def cn (l : List T) (i : Nat) : Nat := ((l.take i).filter (fun t => decide (t.k = 2))).length
theorem cn_zero (l : List T) : cn l 0 = 0 := by simp [cn]
theorem cn_next {l : List T} {i : Nat} {t : T} (h : l[i]? = some t) : cn l (i + 1) = cn l i + if t.k = 2 then 1 else 0 := Ty.filt_snoc h
theorem cn_le (l : List T) (i : Nat) : cn l i ≤ l.length := Nat.le_trans (List.length_filter_le _ _) (by rw [List.length_take]; omega)
theorem cn_all (l : List T) : l.length + cn l l.length = Ty.slots l := by unfold cn Ty.slots; rw [List.take_length]
set_option maxRecDepth 100000
set_option maxHeartbeats 2000000
theorem slots_any {w : World} {v : Value} {l : List T} (hv : TyS w v l) : Calls Tryd.prog 14 #[v] w fun e w' => e = .returned (.int .i64 (Ty.slots l : Int)) ∧ Below w.heap.size w w' := by
  obtain ⟨a, cap, rfl⟩ := Kit.IsS.len hv
  have hn := hv.2.1
  have HV := hid hv
  have HA := hid (cn_all l)
  have HZ := hid (cn_zero l)
  clear hv
  go_enter Tryd.func14, Tryd.ntmps14
  go_wp2
  go_loopw [10, 3] (fun v m wr => ∃ i : Nat, v = .int .i64 (i : Int) ∧ i ≤ l.length ∧ m = .int .i64 ((l.length + cn l i : Nat) : Int) ∧ Hid (Below w.heap.size w wr)) (fun v _ _ => l.length - (intOf v).toNat)
  case atStart => exact ⟨0, rfl, by omega, by rw [HZ.out]; rfl, Below.refl _ _⟩
  case round =>
    obtain ⟨i, rfl, hil, rfl, HB⟩ := hrel
    by_cases hlt : i < l.length
    · obtain ⟨x, hx⟩ : ∃ x, l[i]? = some x := ⟨_, List.getElem?_eq_getElem hlt⟩
      obtain ⟨b, o, p, he, hbl, c0, c1⟩ := (HV.out.below HB.out).at hx
      obtain ⟨rfl, -, rfl⟩ := Value.slice.inj he
      have HC := hid (cn_next hx)
      have hcl := cn_le l i
      obtain ⟨xk, xn⟩ := x
      dsimp only at c0 c1 HC
      obtain ⟨m, hm⟩ : ∃ m, l.length + cn l i = m := ⟨_, rfl⟩
      rw [hm]
      have HM := hid hm
      have hmb : m ≤ 281474976710656 := by omega
      have HB2 := hid (belows HB.out ((Below.refl _ _).alloc (Nat.le_refl _) (.cells #[.int .i64 xk, .string xn] 23)) HB.out.size)
      clear he hx hm hcl
      by_cases hk : xk = 2
      · subst hk
        rw [if_pos rfl] at HC
        go_wp2
        go_roundw
        case rel => exact ⟨i + 1, by go_num, by omega, by rw [HC.out, ← Nat.add_assoc, HM.out]; go_num, HB2⟩
        case measure => simp [intOf]; omega
      · rw [if_neg hk] at HC
        have hk2 : (xk == 2) = false := by simpa using hk
        go_wp2
        go_roundw
        case rel => exact ⟨i + 1, by go_num, by omega, by rw [HC.out, Nat.add_zero, HM.out], HB2⟩
        case measure => simp [intOf]; omega
    · obtain rfl : i = l.length := by omega
      rw [HA.out]
      go_wp2
      go_ret
      exact ⟨rfl, HB.out⟩
theorem rslots_any {w : World} {v : Value} {l : List T} (hv : TyS w v l) : Calls Tryd.prog 15 #[v] w fun e w' => e = .returned (.int .i64 (Ty.slots l : Int)) ∧ Below w.heap.size w w' := by
  obtain ⟨a, cap, rfl⟩ := Kit.IsS.len hv
  have hn := hv.2.1
  have HV := hid hv
  have HA := hid (cn_all l)
  have HZ := hid (cn_zero l)
  clear hv
  go_enter Tryd.func15, Tryd.ntmps15
  go_wp2
  go_loop [4, 3] (fun v m => ∃ i : Nat, v = .int .i64 (i : Int) ∧ i ≤ l.length ∧ m = .int .i64 ((l.length + cn l i : Nat) : Int)) (fun v _ => l.length - (intOf v).toNat)
  case atStart => exact ⟨0, rfl, by omega, by rw [HZ.out]; rfl⟩
  case round =>
    obtain ⟨i, rfl, hil, rfl⟩ := hrel
    by_cases hlt : i < l.length
    · obtain ⟨x, hx⟩ : ∃ x, l[i]? = some x := ⟨_, List.getElem?_eq_getElem hlt⟩
      obtain ⟨b, o, p, he, hbl, c0, c1⟩ := HV.out.at hx
      obtain ⟨rfl, -, rfl⟩ := Value.slice.inj he
      have HC := hid (cn_next hx)
      have hcl := cn_le l i
      obtain ⟨xk, xn⟩ := x
      dsimp only at c0 c1 HC
      obtain ⟨m, hm⟩ : ∃ m, l.length + cn l i = m := ⟨_, rfl⟩
      rw [hm]
      have HM := hid hm
      have hmb : m ≤ 281474976710656 := by omega
      clear he hx hm hcl
      by_cases hk : xk = 2
      · subst hk
        rw [if_pos rfl] at HC
        go_wp2
        exact ⟨⟨i + 1, by go_num, by omega, by rw [HC.out, ← Nat.add_assoc, HM.out]; go_num⟩, by simp [intOf]; omega⟩
      · rw [if_neg hk] at HC
        have hk2 : (xk == 2) = false := by simpa using hk
        go_wp2
        exact ⟨⟨i + 1, by go_num, by omega, by rw [HC.out, Nat.add_zero, HM.out]⟩, by simp [intOf]; omega⟩
    · obtain rfl : i = l.length := by omega
      rw [HA.out]
      go_wp2
      go_ret
      exact ⟨rfl, Below.refl _ _⟩
end Go.Proofs.YtlbkhmfgbonelaaDoor
namespace Go.Proofs.YtlbkhmfgbonelaaDoor
open Go.Shelf
def Sh.sort_ren : Go.Shelf.Ren := ⟨fun | 6 => 58 | 14 => 72 | 15 => 73 | 20 => 80 | 21 => 81 | 22 => 82 | 23 => 83 | 24 => 84 | 25 => 85 | 26 => 86 | 27 => 87 | 28 => 88 | 29 => 89 | 46 => 94 | 47 => 95 | 48 => 96 | 49 => 97 | 50 => 98 | 57 => 100 | n => n, fun | 0 => 0 | 3 => 3 | 4 => 4 | 5 => 5 | 9 => 9 | 22 => 74 | 24 => 3 | 25 => 96 | 39 => 109 | 45 => 114 | 46 => 115 | 50 => 83 | 53 => 121 | 55 => 123 | 66 => 132 | 70 => 136 | 76 => 138 | 77 => 139 | n => n, fun | n => n⟩
theorem Sh.sort : Go.Proofs.SlLaysF.n6 Tryd.prog Sh.sort_ren := {
  mixed := by kernel_rfl
  f6 := ⟨"slices.SortFunc[[]int,int]", by decide, Tryd.func58.trans (congrArg some (by kernel_rfl))⟩
  f14 := ⟨"slices.pdqsortCmpFunc[int]", by decide, Tryd.func72.trans (congrArg some (by kernel_rfl))⟩
  f15 := Tryd.func73.trans (congrArg some (by kernel_rfl))
  f20 := ⟨"slices.insertionSortCmpFunc[int]", by decide, Tryd.func80.trans (congrArg some (by kernel_rfl))⟩
  f21 := ⟨"slices.heapSortCmpFunc[int]", by decide, Tryd.func81.trans (congrArg some (by kernel_rfl))⟩
  f22 := ⟨"slices.breakPatternsCmpFunc[int]", by decide, Tryd.func82.trans (congrArg some (by kernel_rfl))⟩
  f23 := ⟨"slices.choosePivotCmpFunc[int]", by decide, Tryd.func83.trans (congrArg some (by kernel_rfl))⟩
  f24 := ⟨"slices.reverseRangeCmpFunc[int]", by decide, Tryd.func84.trans (congrArg some (by kernel_rfl))⟩
  f25 := ⟨"slices.partialInsertionSortCmpFunc[int]", by decide, Tryd.func85.trans (congrArg some (by kernel_rfl))⟩
  f26 := ⟨"slices.partitionEqualCmpFunc[int]", by decide, Tryd.func86.trans (congrArg some (by kernel_rfl))⟩
  f27 := ⟨"slices.partitionCmpFunc[int]", by decide, Tryd.func87.trans (congrArg some (by kernel_rfl))⟩
  f28 := Tryd.func88.trans (congrArg some (by kernel_rfl))
  f29 := Tryd.func89.trans (congrArg some (by kernel_rfl))
  f46 := ⟨"slices.siftDownCmpFunc[int]", by decide, Tryd.func94.trans (congrArg some (by kernel_rfl))⟩
  f47 := Tryd.func95.trans (congrArg some (by kernel_rfl))
  f48 := Tryd.func96.trans (congrArg some (by kernel_rfl))
  f49 := ⟨"slices.medianAdjacentCmpFunc[int]", by decide, Tryd.func97.trans (congrArg some (by kernel_rfl))⟩
  f50 := ⟨"slices.medianCmpFunc[int]", by decide, Tryd.func98.trans (congrArg some (by kernel_rfl))⟩
  f57 := ⟨"slices.order2CmpFunc[int]", by decide, Tryd.func100.trans (congrArg some (by kernel_rfl))⟩
  t0 := Tryd.underlying0
  a0 := Tryd.isAgg0
  z0 := Tryd.sizeOf0
  v0 := Tryd.zeroValue0
  t3 := Tryd.underlying3
  a3 := Tryd.isAgg3
  z3 := Tryd.sizeOf3
  v3 := Tryd.zeroValue3
  t4 := Tryd.underlying4
  a4 := Tryd.isAgg4
  z4 := Tryd.sizeOf4
  v4 := Tryd.zeroValue4
  t5 := Tryd.underlying5
  a5 := Tryd.isAgg5
  z5 := Tryd.sizeOf5
  v5 := Tryd.zeroValue5
  t9 := Tryd.underlying9
  a9 := Tryd.isAgg9
  z9 := Tryd.sizeOf9
  v9 := Tryd.zeroValue9
  t22 := Tryd.underlying74
  a22 := Tryd.isAgg74
  z22 := Tryd.sizeOf74
  v22 := Tryd.zeroValue74
  a24 := Tryd.isAgg3
  z24 := Tryd.sizeOf3
  t25 := Tryd.underlying96
  a25 := Tryd.isAgg96
  z25 := Tryd.sizeOf96
  v25 := Tryd.zeroValue96
  t39 := Tryd.underlying109
  a39 := Tryd.isAgg109
  z39 := Tryd.sizeOf109
  v39 := Tryd.zeroValue109
  t45 := Tryd.underlying114
  a45 := Tryd.isAgg114
  z45 := Tryd.sizeOf114
  v45 := Tryd.zeroValue114
  t46 := Tryd.underlying115
  a46 := Tryd.isAgg115
  z46 := Tryd.sizeOf115
  v46 := Tryd.zeroValue115
  t50 := Tryd.underlying83
  a50 := Tryd.isAgg83
  z50 := Tryd.sizeOf83
  v50 := Tryd.zeroValue83
  t53 := Tryd.underlying121
  a53 := Tryd.isAgg121
  z53 := Tryd.sizeOf121
  v53 := Tryd.zeroValue121
  t55 := Tryd.underlying123
  a55 := Tryd.isAgg123
  z55 := Tryd.sizeOf123
  v55 := Tryd.zeroValue123
  t66 := Tryd.underlying132
  a66 := Tryd.isAgg132
  z66 := Tryd.sizeOf132
  v66 := Tryd.zeroValue132
  t70 := Tryd.underlying136
  a70 := Tryd.isAgg136
  z70 := Tryd.sizeOf136
  v70 := Tryd.zeroValue136
  t76 := Tryd.underlying138
  a76 := Tryd.isAgg138
  z76 := Tryd.sizeOf138
  v76 := Tryd.zeroValue138
  t77 := Tryd.underlying139
  a77 := Tryd.isAgg139
  z77 := Tryd.sizeOf139
  v77 := Tryd.zeroValue139 }
end Go.Proofs.YtlbkhmfgbonelaaDoor
namespace Go.Proofs.YtlbkhmfgbonelaaDoor
open Go Go.RowKit
open Kit (natVals)

set_option maxRecDepth 100000 in
theorem nan_any (x : Int) (w : World) : Calls Tryd.prog 74 #[.int .i64 x] w fun e w' => e = .returned (.bool false) ∧ w = w' := by
  go_enter Tryd.func74, Tryd.ntmps74
  go_wp2
  go_ret
  exact ⟨by simp, rfl⟩
set_option maxRecDepth 100000 in
theorem compare_any (x y : Int) (w : World) : Calls Tryd.prog 61 #[.int .i64 x, .int .i64 y] w fun e w' => e = .returned (.int .i64 (Lib.compareInt x y)) ∧ w = w' := by
  unfold Lib.compareInt
  have HN := fun x => nan_any x w
  by_cases h1 : x < y
  · rw [if_pos h1]
    go_enter Tryd.func61, Tryd.ntmps61
    go_wp2_with (go_at_call 74; refine (HN _).mono ?_; rintro e w' ⟨rfl, rfl⟩)
    go_ret
    exact ⟨rfl, rfl⟩
  · rw [if_neg h1]
    by_cases h2 : x > y
    · rw [if_pos h2]
      have h2' : y < x := h2
      go_enter Tryd.func61, Tryd.ntmps61
      go_wp2_with (go_at_call 74; refine (HN _).mono ?_; rintro e w' ⟨rfl, rfl⟩)
      go_ret
      exact ⟨rfl, rfl⟩
    · rw [if_neg h2]
      have h2' : ¬ y < x := h2
      go_enter Tryd.func61, Tryd.ntmps61
      go_wp2_with (go_at_call 74; refine (HN _).mono ?_; rintro e w' ⟨rfl, rfl⟩)
      go_ret
      exact ⟨rfl, rfl⟩
set_option maxRecDepth 100000 in
theorem or_any (c d : Int) (b cap : Nat) (w : World) (h0 : w.cell? ⟨b, 0, none⟩ = some (.int .i64 c)) (h1 : w.cell? ⟨b, 1, none⟩ = some (.int .i64 d)) :
    Calls Tryd.prog 60 #[.slice (some ⟨b, 0, none⟩) 2 cap] w fun e w' => e = .returned (.int .i64 (if c = 0 then d else c)) ∧ w = w' := by
  go_enter Tryd.func60, Tryd.ntmps60
  go_wp2
  go_loop [8] (fun i => ∃ k : Nat, i = .int .i64 (k : Int) ∧ k ≤ 2 ∧ Hid (1 ≤ k → c = 0) ∧ Hid (2 ≤ k → d = 0)) (fun i => 2 - (intOf i).toNat)
  case atStart => exact ⟨0, rfl, by omega, fun h => by omega, fun h => by omega⟩
  case round =>
    obtain ⟨k, rfl, hk, H1, H2⟩ := hrel
    by_cases k0 : k = 0
    · subst k0
      by_cases hc : c = 0
      · subst hc
        go_wp2
        go_round
        case rel => exact ⟨1, by go_num, by omega, fun _ => by first | rfl | trivial, fun h => by omega⟩
        case measure => simp [intOf]
      · go_wp2
        go_ret
        exact ⟨by simp, rfl⟩
    · by_cases k1 : k = 1
      · subst k1
        have hc : c = 0 := H1.out (by omega)
        subst hc
        by_cases hd : d = 0
        · subst hd
          go_wp2
          go_round
          case rel => exact ⟨2, by go_num, by omega, fun _ => by first | rfl | trivial, fun _ => by first | rfl | trivial⟩
          case measure => simp [intOf]
        · go_wp2
          go_ret
          exact ⟨by simp, rfl⟩
      · obtain rfl : k = 2 := by omega
        have hc : c = 0 := H1.out (by omega)
        have hd : d = 0 := H2.out (by omega)
        subst hc hd
        go_wp2
        go_ret
        exact ⟨by simp, rfl⟩
def cfO (D : Nat → Nat) (a b : Nat) : Int := if Lib.compareInt (D a) (D b) = 0 then Lib.compareInt a b else Lib.compareInt (D a) (D b)
theorem cf_cmp (v : Value) (v' : Value) (w : World) : (callFunc 61 #[v, v']).run Tryd.prog w = .ok (.enter 61 #[v, v']) w := enters_of Tryd.func61 (by kernel_rfl) rfl _ _
theorem cf_or (v : Value) (w : World) : (callFunc 60 #[v]).run Tryd.prog w = .ok (.enter 60 #[v]) w := enters_of Tryd.func60 (by kernel_rfl) rfl _ _
set_option maxRecDepth 100000 in
set_option maxHeartbeats 1000000 in
theorem clo_any {w : World} {hb bb g n p : Nat} (D : Nat → Nat) (h0 : w.cell? ⟨bb, 0, none⟩ = some (.pointer (some ⟨hb, 0, none⟩))) (h1 : w.cell? ⟨hb, 0, none⟩ = some (.slice (some ⟨g, 0, none⟩) n p)) (hs : ∀ k, k < n → w.cell? ⟨g, k * 4 + 2, none⟩ = some (.int .i64 (D k : Int)))
    (a b : Nat) (ha : a < n) (hb' : b < n) : Calls Tryd.prog 59 #[.int .i64 (a : Int), .int .i64 (b : Int), .pointer (some ⟨bb, 0, none⟩)] w fun e w' => e = .returned (.int .i64 (cfO D a b)) ∧ ∃ q o, w' = (w.drewN q).alloc o := by
  have ca := hs a ha
  have cb := hs b hb'
  have HC1 := fun W => compare_any (D a : Int) (D b : Int) W
  have HC2 := fun W => compare_any (a : Int) (b : Int) W
  unfold cfO
  obtain ⟨c, hc⟩ : ∃ c, Lib.compareInt (D a : Int) (D b : Int) = c := ⟨_, rfl⟩
  obtain ⟨d, hd⟩ : ∃ d, Lib.compareInt (a : Int) (b : Int) = d := ⟨_, rfl⟩
  rw [hc] at HC1 ⊢
  rw [hd] at HC2 ⊢
  obtain ⟨x, hx⟩ : ∃ x, D a = x := ⟨_, rfl⟩
  obtain ⟨y, hy⟩ : ∃ y, D b = y := ⟨_, rfl⟩
  rw [hx] at ca HC1
  rw [hy] at cb HC1
  have HH1 := hid HC1
  have HH2 := hid HC2
  have hbg := World.block_lt_of_cell? w _ ca
  have HOr := hid (fun W => or_any c d w.heap.size 2 W)
  obtain ⟨r, hr⟩ : ∃ r, (if c = 0 then d else c) = r := ⟨_, rfl⟩
  rw [hr] at HOr ⊢
  clear hs hc hd hx hy HC1 HC2 hr
  go_enter Tryd.func59, Tryd.ntmps59
  go_wp2
  go_region_law (first
    | (refine Kit.step_call1 rfl 60 (.tmp 26) 74 rfl (.slice (some ⟨w.heap.size, 0, none⟩) 2 2) (by first | with_reducible rfl | (simp [go_sem]; done) | rfl) (cf_or _ _) _ (HOr.out _ (by simp) (by simp)) ?_; rintro e w3 ⟨rfl, rfl⟩; refine ⟨_, rfl, ?_⟩)
    | (refine Kit.step_call2 rfl 61 (.tmp 13) (.tmp 21) 3 3 rfl (.int .i64 (x : Int)) (.int .i64 (y : Int)) (by first | with_reducible rfl | (simp [go_sem]; done) | rfl) (by first | with_reducible rfl | (simp [go_sem]; done) | rfl) (cf_cmp _ _ _) _ (HH1.out _) ?_; rintro e w3 ⟨rfl, rfl⟩; refine ⟨_, rfl, ?_⟩)
    | (refine Kit.step_call2 rfl 61 (.tmp 23) (.tmp 24) 3 3 rfl (.int .i64 (a : Int)) (.int .i64 (b : Int)) (by first | with_reducible rfl | (simp [go_sem]; done) | rfl) (by first | with_reducible rfl | (simp [go_sem]; done) | rfl) (cf_cmp _ _ _) _ (HH2.out _) ?_; rintro e w3 ⟨rfl, rfl⟩; refine ⟨_, rfl, ?_⟩))
  all_goals
    go_wp2
    go_ret
    exact ⟨rfl, _, _, rfl⟩
end Go.Proofs.YtlbkhmfgbonelaaDoor
namespace Go.Proofs.YtlbkhmfgbonelaaDoor
open Go Go.RowKit
open Kit (natVals)

theorem cmp_neg (x y : Int) : (Lib.compareInt x y < 0) ↔ x < y := by
  unfold Lib.compareInt
  split <;> (try split) <;> omega
theorem cmp_zero (x y : Int) : (Lib.compareInt x y = 0) ↔ x = y := by
  unfold Lib.compareInt
  split <;> (try split) <;> omega
theorem cf_lex (D : Nat → Nat) (a b : Nat) : (cfO D a b < 0) ↔ Hi.lex D a b := by
  unfold cfO Hi.lex
  by_cases h : Lib.compareInt (D a) (D b) = 0
  · rw [if_pos h, cmp_neg]
    rw [cmp_zero] at h
    omega
  · rw [if_neg h, cmp_neg]
    rw [cmp_zero] at h
    omega
/-- The numbers of n classes. -/
abbrev Cn (n : Nat) := { k : Nat // k < n }
def cfC (D : Nat → Nat) {n : Nat} (a b : Cn n) : Int := cfO D a.1 b.1
theorem lt_lex (D : Nat → Nat) {n : Nat} (a b : Cn n) : ltOf (cfC D) a b = true ↔ Hi.lex D a.1 b.1 := by
  unfold ltOf cfC
  rw [decide_eq_true_iff]
  exact cf_lex D a.1 b.1
theorem swo (D : Nat → Nat) (n : Nat) : Sort.SWO (ltOf (cfC D (n := n))) where
  irrefl x := by
    rw [Bool.eq_false_iff]
    intro h
    exact Hi.lex_irrefl D x.1 ((lt_lex D x x).1 h)
  trans x y z h1 h2 := (lt_lex D x z).2 (Hi.lex_trans D _ _ _ ((lt_lex D x y).1 h1) ((lt_lex D y z).1 h2))
  ntrans x y z h1 h2 := by
    rw [Bool.eq_false_iff] at *
    intro h
    have h := (lt_lex D x z).1 h
    have h1 : ¬ Hi.lex D x.1 y.1 := fun k => h1 ((lt_lex D x y).2 k)
    have h2 : ¬ Hi.lex D y.1 z.1 := fun k => h2 ((lt_lex D y z).2 k)
    unfold Hi.lex at *
    omega
theorem sortW_chg {α : Type} [Inhabited α] (enc : α → Value) {w : World} {blk : Nat} (m : Nat) (d : Array α) (os : Array Obj) : Chg (fun i => i = blk) w (sortWorld enc w blk 0 m d os) := by
  refine ⟨rfl, rfl, rfl, ?_, fun k hk hne => ?_⟩
  · unfold sortWorld
    rw [Sort.size_grow, size_putRow]
    show w.heap.size ≤ w.heap.size + _
    omega
  · unfold sortWorld
    rw [Sort.heap_grow_old _ _ (by rw [size_putRow]; exact hk)]
    unfold Sort.putRow Sort.mapBlock
    simp only [Array.getElem?_modify]
    rw [if_neg (fun e => hne e.symm)]
    rfl
theorem sortW_own {α : Type} [Inhabited α] (enc : α → Value) {w : World} {base blk n cap : Nat} {e : TypeId} {xs : List Value} (h : w.ownsRow base e 1 (.slice (some ⟨blk, 0, none⟩) n cap) n xs) (m : Nat) (d : Array α) (os : Array Obj) (hd : d.size = n) :
    (sortWorld enc w blk 0 m d os).ownsRow base e 1 (.slice (some ⟨blk, 0, none⟩) n cap) n (d.toList.map enc) := by
  refine ⟨by simp [hd], .inr ?_⟩
  rcases h.2 with ⟨h2, -⟩ | ⟨g', cap', cur, hv, hg, hh, h1, h2, h3, h4⟩
  · cases h2
  · obtain ⟨e1, -, rfl⟩ := Value.slice.inj hv
    obtain rfl : blk = g' := by simpa using e1
    have hlt := (Array.getElem?_eq_some_iff.1 hh).1
    refine ⟨blk, cap, Sort.putCells enc 0 d cur, rfl, hg, ?_, h1, h2, by simp [Sort.putCells, h3], ?_⟩
    · unfold sortWorld
      rw [Sort.heap_grow_old _ _ (by rw [size_putRow]; exact hlt)]
      unfold Sort.putRow Sort.mapBlock
      simp only [Array.getElem?_modify]
      rw [if_pos trivial]
      show Option.map _ w.heap[blk]? = _
      rw [hh]
      rfl
    · apply List.ext_getElem?
      intro k
      rw [List.getElem?_take, List.getElem?_map]
      by_cases hk : k < n * 1
      · rw [if_pos hk]
        have hk2 : k < d.size := by omega
        have hk3 : k < cur.size := by rw [h3]; omega
        rw [Array.getElem?_toList]
        unfold Sort.putCells
        rw [Array.getElem?_mapIdx, Array.getElem?_eq_getElem hk3, Option.map_some, if_pos ⟨by omega, by omega⟩, Array.getElem?_toList, Array.getElem?_eq_getElem hk2, Option.map_some, Nat.sub_zero, getElem!_pos d k hk2]
      · rw [if_neg hk, Array.getElem?_toList, Array.getElem?_eq_none (by omega)]
        rfl
theorem HM.setOd {w w1 : World} {base : Nat} {H : HV} (h : HM w base H) (hc : Chg (fun i => H.ov.ownBlock = some i) w w1) {l : List Nat} (ho : w1.ownsRow base 3 1 H.ov l.length (natVals l)) : HM w1 base { H with od := l } :=
  ⟨(hc.block _ h.hb_lt (own_unlike_box h.ord h.box (by decide))).trans h.box, h.map.keep (hc.block _ h.mb_lt (own_map h.ord h.map)), owns_chg h.cls hc (own_unlike h.cls h.ord (by decide)), ho,
   fun i hi => owns_chg (h.sub i hi) hc (fun j e e2 => h.apo i hi j e e2), h.ap, h.apo, h.lh, h.lm⟩
/-- Numbers of classes, out of a list of them. -/
def cnL {n : Nat} (O : List Nat) (h : ∀ x ∈ O, x < n) : List (Cn n) := O.pmap (fun k hk => ⟨k, hk⟩) h
theorem cnL_val {n : Nat} (O : List Nat) (h : ∀ x ∈ O, x < n) : (cnL O h).map (·.1) = O := by
  unfold cnL
  rw [List.map_pmap]
  exact List.pmap_eq_self.2 (fun _ _ => rfl)
def encC {n : Nat} (k : Cn n) : Value := .int .i64 (k.1 : Int)
theorem enc_vals {n : Nat} (l : List (Cn n)) : l.map encC = natVals (l.map (·.1)) := by
  unfold natVals
  rw [List.map_map]
  rfl
/-- What is sorted, is the order. -/
theorem sorted_ord {n : Nat} [Inhabited (Cn n)] {P D : Nat → Nat} (t : Hi.Tr n P D) {O : List Nat} (h : ∀ x ∈ O, x < n) (hnd : O.Nodup) (hall : ∀ x, x < n → x ∈ O) {d' : Array (Cn n)} (hp : Sort.PermIn 0 (cnL O h).toArray.size (cnL O h).toArray d') (hs : Sort.SortedIn (ltOf (cfC D)) 0 (cnL O h).toArray.size d') :
    d'.toList.map (·.1) = Hi.ordL n D ∧ d'.size = O.length := by
  have hsz : (cnL O h).toArray.size = O.length := by unfold cnL; simp
  obtain ⟨p1, -, p2⟩ := hp
  have e1 : (d'.extract 0 (cnL O h).toArray.size) = d' := by rw [← p1]; simp
  have e2 : ((cnL O h).toArray.extract 0 (cnL O h).toArray.size) = (cnL O h).toArray := by simp
  rw [e1, e2] at p2
  have p3 : (d'.toList.map (·.1)).Perm O := by
    have := p2.map (·.1)
    rwa [show (cnL O h).toArray.toList = cnL O h from rfl, cnL_val] at this
  refine ⟨Hi.ord_eq t ?_ (fun x => ⟨fun hx => h x (p3.mem_iff.1 hx), fun hx => p3.mem_iff.2 (hall x hx)⟩), by rw [p1, hsz]⟩
  have hnd' : (d'.toList.map (·.1)).Nodup := p3.nodup_iff.2 hnd
  rw [List.pairwise_iff_getElem]
  intro i j hi hj hij
  have hi' : i < d'.size := by simpa using hi
  have hj' : j < d'.size := by simpa using hj
  have h1 := hs i j (by omega) hij (by rw [← p1]; exact hj')
  rw [getElem!_pos d' i hi', getElem!_pos d' j hj', Bool.eq_false_iff] at h1
  have h2 : ¬ Hi.lex D d'[j].1 d'[i].1 := fun k => h1 ((lt_lex D _ _).2 k)
  have h3 : d'[i].1 ≠ d'[j].1 := by
    have := (List.pairwise_iff_getElem.1 hnd') i j hi hj hij
    simpa using this
  simp only [List.getElem_map, Array.getElem_toList]
  unfold Hi.lex at *
  omega
end Go.Proofs.YtlbkhmfgbonelaaDoor
namespace Go.Proofs.YtlbkhmfgbonelaaDoor
open Go Go.RowKit
open Kit (natVals)

theorem src_none1 (c : Nat) (w : World) : Src Tryd.prog 1 74 (.slice none 0 c) 0 [] w :=
  ⟨.inl ⟨_, Tryd.underlying74⟩, fun _ => rfl, rfl, rfl, rfl, fun u hu => by cases hu⟩
/-- An append of numbers that are read, as a step of a region that draws its order. -/
theorem step_ints {ops : Array Oper} {o : Oper} {a : Act} {w : World} {K : Act → World → Prop} {Q : Exit → Act → World → Prop} {E : Prop} (hgd : o.guard = none) (s x : Operand)
    (hop : o.op = Op.call { callee := Callee.builtin Builtin.append, args := #[s, x], argTypes := #[74, 74] })
    (B : Nat) (v : Value) (n : Nat) (xs : List Value) (hs : a.eval s = v) (hown : w.ownsRow B 3 1 v n xs) (hB : B ≤ w.heap.size)
    (xv : Value) (m : Nat) (news : List Value) (hx : a.eval x = xv) (hr : Kit.IsS 1 w xv m news) (h1 : ∀ u ∈ news, u.oneCell' = true) (hnm : n + m ≤ 10000000)
    (hK : ∀ v' w', w'.ownsRow B 3 1 v' (n + m) (xs ++ news) → w.grownBy w' v.ownBlock → (v'.ownBlock = v.ownBlock ∨ v'.ownBlock = some w.heap.size) → K (a.put o.dst v') w') :
    if Region.wanted o (yielded ops a.tmps) = true then Oper.wp Tryd.prog o a w K Q else E := by
  have hw : Region.wanted o (yielded ops a.tmps) = true := by simp [Region.wanted, hgd]
  rw [if_pos hw]
  obtain ⟨i0, hi, hz0, hz1, hz2⟩ := info_parts infoI
  have some' : ∀ ad c, xv = .slice (some ad) m c → (∀ j u, news[j]? = some u → w.cell? (ad.add j) = some u) → Oper.wp Tryd.prog o a w K Q := fun ad c he hc => by
    subst he
    obtain ⟨v', w', hr', h2, h3, -, h5⟩ := run_append_own_at (P := Tryd.prog) w B 74 o.type 3 i0 _ 1 8 Tryd.underlying74 hi hz0 hz1 hz2 rfl (by decide) v n xs hown ad m c news hr.1 hc h1 (by unfold maxLen; omega) (by omega) hB
    unfold Oper.wp execOp
    simp only [hop, resolve, invoke, builtin, Sem.run_bind, Sem.run_pure, Result.andThen_ok, List.map_toArray, List.map_cons, List.map_nil, hs, hx, hr']
    exact hK _ _ h2 h3 h5
  rcases hr.2.2 with ⟨h0, ad, c, he⟩ | ⟨b, ofs, c, he, -, -, hc⟩
  · subst h0
    have hn : news = [] := List.eq_nil_of_length_eq_zero (by simpa using hr.1)
    cases ad with
    | some ad => exact some' ad c he (fun j u hj => by rw [hn] at hj; simp at hj)
    | none =>
      subst hn he
      have hcap : ∃ ad' n' c', v = .slice ad' n' c' ∧ n' ≤ c' := by
        rcases hown.2 with ⟨h, -⟩ | ⟨g, cap, cur, h, -, -, h4, -⟩
        · exact ⟨none, 0, 0, h, Nat.le_refl _⟩
        · exact ⟨_, _, _, h, h4⟩
      obtain ⟨ad', n', c', he', hle⟩ := hcap
      have hr' := run_append_nothing (P := Tryd.prog) w 74 74 o.type 3 i0 Tryd.underlying74 hi ad' n' c' hle (.slice none 0 c) (by rw [hz1]; exact src_none1 c w)
      rw [← he'] at hr'
      unfold Oper.wp execOp
      simp only [hop, resolve, invoke, builtin, Sem.run_bind, Sem.run_pure, Result.andThen_ok, List.map_toArray, List.map_cons, List.map_nil, hs, hx, hr']
      exact hK _ _ (by simpa using hown) ⟨rfl, rfl, rfl, Nat.le_refl _, fun _ _ _ => rfl⟩ (.inl rfl)
  · exact some' _ c he (fun j u hj => by rw [Go.WideShapes.add_plain]; exact hc j u hj)
/-- Depths, of which the first j are written that stand under x. -/
def dj (n : Nat) (P d : Nat → Nat) (x j : Nat) : Nat → Nat := fun k => if k ∈ (Hi.ch n P x).take j then d x + 1 else d k
theorem dj_zero (n : Nat) (P d : Nat → Nat) (x : Nat) : dj n P d x 0 = d := by funext k; simp [dj]
theorem dj_all (n : Nat) (P d : Nat → Nat) (x : Nat) : dj n P d x (Hi.ch n P x).length = Hi.dn n P d x := by
  funext k
  unfold dj Hi.dn
  rw [List.take_length]
  by_cases h : 1 ≤ k ∧ k < n ∧ P k = x
  · rw [if_pos h, if_pos (Hi.mem_ch.2 h)]
  · rw [if_neg h, if_neg (fun e => h (Hi.mem_ch.1 e))]
/-- Where orderAll stands. -/
structure OaI (w : World) (base : Nat) (H : HV) (P : Nat → Nat) (bb : Nat) (O : List Nat) (d : Nat → Nat) (ov : Value) (W : World) : Prop where
  hm : HM W base { H with ov := ov, od := O, dp := d }
  bx : BX W bb #[.pointer (some ⟨H.hb, 0, none⟩)] 35
  bel : Below base w W
  sz : w.heap.size ≤ W.heap.size
  sb : ∀ k, k < H.n → H.sb k = Hi.ch H.n P k
  le : H.n ≤ 72
section
variable {w W W' : World} {base bb : Nat} {H : HV} {P : Nat → Nat} {O : List Nat} {d : Nat → Nat} {ov : Value}
theorem OaI.below (h : OaI w base H P bb O d ov W) (hb : Below W.heap.size W W') (hw : base ≤ w.heap.size) : OaI w base H P bb O d ov W' :=
  ⟨h.hm.below hb, h.bx.below hb, belows h.bel hb (Nat.le_trans hw h.sz), Nat.le_trans h.sz hb.size, h.sb, h.le⟩
/-- A depth is written. -/
theorem OaI.depth (h : OaI w base H P bb O d ov W) {k g p : Nat} (x : Nat) (hk : k < H.n) (hv : H.cv = .slice (some ⟨g, 0, none⟩) H.n p) (hw : base ≤ w.heap.size) :
    W.frozen? ⟨g, k * 4 + 2, none⟩ = false ∧ OaI w base H P bb O (upd d k x) ov (W.setCell ⟨g, k * 4 + 2, none⟩ (.int .i64 (x : Int))) := by
  have hgb : H.cv.ownBlock = some g := by rw [hv]; rfl
  have hM := h.hm.setRow (k := k) (i := 2) (u := .int .i64 (x : Int)) (su := H.su) (dp := upd d k x) hk (by omega) hv (by unfold HV.row; dsimp only; rw [upd_same]; rfl) (fun j hj => ⟨rfl, upd_other _ _ hj⟩)
  have hS : Chg (fun i => i = g) W (W.setCell ⟨g, k * 4 + 2, none⟩ (.int .i64 (x : Int))) := (Chg.refl (fun i => i = g) W).set (p := ⟨g, k * 4 + 2, none⟩) (.inl rfl) _
  refine ⟨own_frz h.hm.cls hgb _, hM, h.bx.chg hS (fun e => ?_), h.bel.trans (hS.to_below (fun j e => ?_) (Nat.le_trans hw h.sz)), Nat.le_trans h.sz hS.size, h.sb, h.le⟩
  · exact own_unlike_box h.hm.cls h.bx (by decide) (e ▸ hgb)
  · exact Kit.own_base h.hm.cls j (e ▸ hgb)
/-- Those under a class go behind the others. -/
theorem OaI.app (h : OaI w base H P bb O d ov W) {w2 w3 : World} {u : Value} {l : List Nat} (hb : Below W.heap.size W w2) (hg : w2.grownBy w3 ov.ownBlock) (hu : u.ownBlock = ov.ownBlock ∨ u.ownBlock = some w2.heap.size)
    (ho : w3.ownsRow base 3 1 u (O.length + l.length) (natVals O ++ natVals l)) (hw : base ≤ w.heap.size) :
    (∀ p : Addr, p.block < W.heap.size → ov.ownBlock ≠ some p.block → w3.cell? p = W.cell? p) ∧ w3.cell? ⟨bb, 0, none⟩ = some (.pointer (some ⟨H.hb, 0, none⟩)) ∧ w3.cell? ⟨H.hb, 2, none⟩ = some ov ∧ w3.frozen? ⟨H.hb, 2, none⟩ = false ∧ OaI w base H P bb (O ++ l) d u (w3.setCell ⟨H.hb, 2, none⟩ u) := by
  have hc := (Chg.of_below (S := fun i => ov.ownBlock = some i) hb).grown hg (fun j e => .inl e)
  have hbx : BX w3 H.hb #[H.cv, .map (some H.mb), ov] 76 := BX.chg (w := W) h.hm.box hc (own_unlike_box h.hm.ord h.hm.box (by decide))
  have hb3 := h.bx.chg hc (own_unlike_box h.hm.ord h.bx (by decide))
  have hA := h.hm.setOv hc (u := u) (l := O ++ l) (by rw [List.length_append]; unfold natVals at ho ⊢; rw [List.map_append]; exact ho) (by
    rcases hu with e | e
    · exact .inl e
    · exact .inr ⟨_, hb.size, e⟩)
  have hS : Chg (fun i => ov.ownBlock = some i ∨ i = H.hb) W (w3.setCell ⟨H.hb, 2, none⟩ u) := (hc.mono (T := fun i => ov.ownBlock = some i ∨ i = H.hb) (fun i _ e => .inl e)).set (.inl (.inr rfl)) _
  refine ⟨fun p hp hne => hc.cell hp hne, hb3.cell 0, hbx.cell 2, hbx.frozen 2, hA, h.bx.chg hS ?_, h.bel.trans (hS.to_below (fun j e => ?_) (Nat.le_trans hw h.sz)), Nat.le_trans h.sz hS.size, h.sb, h.le⟩
  · rintro (e | rfl)
    · exact own_unlike_box h.hm.ord h.bx (by decide) e
    · have h1 := h.hm.box
      have h2 := h.bx
      unfold BX at h2
      dsimp only at h1
      rw [h2] at h1
      simp at h1
  · rcases e with e | rfl
    · exact Kit.own_base h.hm.ord j e
    · exact h.hm.lh
end
end Go.Proofs.YtlbkhmfgbonelaaDoor
namespace Go.Proofs.YtlbkhmfgbonelaaDoor
open Go Go.RowKit
open Kit (natVals)

theorem owns_new1 (W : World) {base : Nat} (hB : base ≤ W.heap.size) (u : Value) (t : TypeId) : (W.alloc (.cells #[u] t)).ownsRow base t 1 (.slice (some ⟨W.heap.size, 0, none⟩) 1 1) 1 [u] :=
  ⟨rfl, .inr ⟨W.heap.size, 1, #[u], rfl, hB, heap_alloc_last W _, Nat.le_refl _, by unfold maxLen; omega, rfl, rfl⟩⟩
theorem own_at0 {w : World} {base : Nat} {e : TypeId} {v : Value} {n : Nat} {xs : List Value} (h : w.ownsRow base e 1 v n xs) (hn : 0 < n) : ∃ g cap, v = .slice (some ⟨g, 0, none⟩) n cap ∧ g < w.heap.size ∧ ∀ i u, xs[i]? = some u → w.cell? ⟨g, i, none⟩ = some u ∧ w.frozen? ⟨g, i, none⟩ = false := by
  obtain ⟨hl, h⟩ := h
  rcases h with ⟨-, h2⟩ | ⟨g, cap, cur, rfl, hg, hh, hc1, hc2, hc3, ht⟩
  · omega
  · refine ⟨g, cap, rfl, (Array.getElem?_eq_some_iff.1 hh).1, fun i u hi => ⟨?_, by simp [World.frozen?, hh]⟩⟩
    have hlt : i < xs.length := (List.getElem?_eq_some_iff.1 hi).1
    have : cur[i]? = some u := by
      rw [← ht, List.getElem?_take_of_lt (by omega)] at hi
      simpa using hi
    simp [World.cell?, hh, this]
theorem HM.sightAt {w : World} {base : Nat} {H : HV} (h : HM w base H) {g p : Nat} (hv : H.cv = .slice (some ⟨g, 0, none⟩) H.n p) (hn : 1 ≤ H.n) : g < w.heap.size ∧ ∀ k, k < H.n → w.cell? ⟨g, k * 4, none⟩ = some (.string (H.nm k)) ∧ w.cell? ⟨g, k * 4 + 1, none⟩ = some (.int .i64 (H.su k)) ∧
    w.cell? ⟨g, k * 4 + 2, none⟩ = some (.int .i64 (H.dp k : Int)) ∧ w.cell? ⟨g, k * 4 + 3, none⟩ = some (H.sv k) := by
  obtain ⟨g2, p2, h1, h2, h3⟩ := h.sight hn
  rw [hv] at h1
  obtain ⟨e, -, -⟩ := Value.slice.inj h1
  rw [Option.some.injEq, Addr.mk.injEq] at e
  obtain ⟨rfl, -, -⟩ := e
  exact ⟨h2, h3⟩
theorem holdsC {n : Nat} [Inhabited (Cn n)] {w : World} {og : Nat} {O : List Nat} (hlt : ∀ x ∈ O, x < n) (h : ∀ i u, (natVals O)[i]? = some u → w.cell? ⟨og, i, none⟩ = some u ∧ w.frozen? ⟨og, i, none⟩ = false) : Sort.Holds (encC (n := n)) w og 0 (cnL O hlt).toArray := by
  intro j hj
  have hjO : j < O.length := by have : (cnL O hlt).toArray.size = O.length := by unfold cnL; simp
                                omega
  have e1 : ((cnL O hlt).toArray[j]!).1 = O[j] := by
    have hL : j < (cnL O hlt).length := hj
    have h2 : ((cnL O hlt).map (·.1))[j]? = O[j]? := by rw [cnL_val]
    rw [List.getElem?_map, List.getElem?_eq_getElem hL, List.getElem?_eq_getElem hjO] at h2
    rw [getElem!_pos _ j hj]
    simpa using h2
  have h1 := h j (.int .i64 ((O[j] : Nat) : Int)) (Kit.natVals_at (List.getElem?_eq_getElem hjO))
  rw [Nat.zero_add]
  refine ⟨?_, h1.2⟩
  rw [h1.1]
  unfold encC
  rw [e1]
theorem dj_step {n : Nat} {P d : Nat → Nat} {x j s : Nat} (hs : (Hi.ch n P x)[j]? = some s) : upd (dj n P d x j) s (d x + 1) = dj n P d x (j + 1) := by
  funext k
  unfold upd dj
  rw [List.take_add_one, hs]
  by_cases e : k = s
  · subst e
    rw [if_pos rfl, if_pos (by simp)]
  · rw [if_neg e]
    by_cases h : k ∈ (Hi.ch n P x).take j
    · rw [if_pos h, if_pos (by simp [h])]
    · rw [if_neg h, if_neg (by simp [h, e])]
theorem dj_self {n : Nat} {P d : Nat → Nat} {O : List Nat} {i x : Nat} (h : Hi.Bf n P O i d) (hx : O[i]? = some x) (j : Nat) : dj n P d x j x = d x := by
  unfold dj
  rw [if_neg]
  intro e
  exact h.child hx (List.mem_of_mem_take e) (List.mem_of_getElem? hx)
section
variable {w W : World} {base bb : Nat} {H : HV} {P : Nat → Nat} {O : List Nat} {d : Nat → Nat} {ov : Value}
/-- The comparison, in each world that the sort passes through. -/
theorem OaI.cmp (h : OaI w base H P bb O d ov W) (hn : 1 ≤ H.n) [Inhabited (Cn H.n)] {blk cap : Nat} (hov : ov = .slice (some ⟨blk, 0, none⟩) O.length cap) (size : Nat) :
    CmpLays1 Tryd.prog 59 #[.pointer (some ⟨bb, 0, none⟩)] (encC (n := H.n)) (cfC d) blk 0 size W := by
  intro m os dk _ x y
  obtain ⟨g, p, hc, hg, hs⟩ := h.hm.sight hn
  obtain ⟨k0, -, -⟩ := h.hm.cells
  have hch := sortW_chg (encC (n := H.n)) (w := W) (blk := blk) m dk os
  have hob : ov.ownBlock = some blk := by rw [hov]; rfl
  have hgb : H.cv.ownBlock = some g := by rw [show H.cv = _ from hc]; rfl
  have n1 : bb ≠ blk := fun e => own_unlike_box h.hm.ord h.bx (by decide) (e ▸ hob)
  have n2 : H.hb ≠ blk := fun e => own_unlike_box h.hm.ord h.hm.box (by decide) (show ov.ownBlock = some H.hb by rw [e]; exact hob)
  have n3 : g ≠ blk := fun e => own_unlike h.hm.cls h.hm.ord (by decide) g hgb (show ov.ownBlock = some g by rw [e]; exact hob)
  have f0 := (hch.cell (p := ⟨bb, 0, none⟩) h.bx.sz n1).trans (h.bx.cell 0)
  have f1 := (hch.cell (p := ⟨H.hb, 0, none⟩) h.hm.hb_lt n2).trans k0
  rw [show ({ H with ov := ov, od := O, dp := d } : HV).cv = _ from hc] at f1
  refine (clo_any (n := H.n) d f0 f1 (fun k hk => (hch.cell (p := ⟨g, k * 4 + 2, none⟩) hg n3).trans (hs k hk).2.2.1) x.1 y.1 x.2 y.2).mono ?_
  rintro e w' ⟨rfl, q, o, rfl⟩
  exact ⟨rfl, q, #[o], Sort.alloc_eq_grow _ _⟩
end
def OrPost (base : Nat) (H : HV) (P : Nat → Nat) (w : World) (e : Ending) (w' : World) : Prop :=
  Below base w w' ∧ w.heap.size ≤ w'.heap.size ∧ ((e = .returned (.bool false) ∧ ¬ ∃ D, Hi.Tr H.n P D) ∨ (e = .returned (.bool true) ∧ ∃ D ov, Hi.Tr H.n P D ∧ HM w' base { H with ov := ov, od := Hi.ordL H.n D, dp := D }))
set_option maxRecDepth 100000 in
set_option maxHeartbeats 8000000 in
theorem orderAll_any {w : World} {base : Nat} {H : HV} {P : Nat → Nat} (h : HM w base H) (hn : 1 ≤ H.n) (hle : H.n ≤ 72) (hP : ∀ k, 1 ≤ k → k < H.n → P k < H.n) (hsb : ∀ k, k < H.n → H.sb k = Hi.ch H.n P k) (hod : H.od = []) (hdp : H.dp = fun _ => 0) :
    Calls Tryd.prog 46 #[.pointer (some ⟨H.hb, 0, none⟩)] w (OrPost base H P w) := by
  have hbase := Nat.le_of_lt h.base_lt
  obtain ⟨k0, k1, k2⟩ := h.cells
  have kf := h.frozen 2
  have hbl := h.hb_lt
  have H0 : OaI w base H P w.heap.size [] (fun _ => 0) H.ov (w.alloc (.cells #[.pointer (some ⟨H.hb, 0, none⟩)] 35)) :=
    ⟨by have e : ({ H with ov := H.ov, od := [], dp := fun _ => 0 } : HV) = H := (by rw [← hod, ← hdp]); rw [e]; exact h.below ((Below.refl _ _).alloc (Nat.le_refl _) _), BX.new w _ _, (Below.refl _ _).alloc hbase _, by simp, hsb, hle⟩
  have HB := hid (H0.app (u := .slice (some ⟨w.heap.size + 1, 0, none⟩) 1 1) (l := [0]) (Below.refl _ _) (World.grownBy_alloc _ (.cells #[.int .i64 0] 3) _) (.inr (by simp [Value.ownBlock]))
    (by have e := owns_new1 (w.alloc (.cells #[.pointer (some ⟨H.hb, 0, none⟩)] 35)) (base := base) (by rw [World.size_alloc]; omega) (.int .i64 0) 3; rw [World.size_alloc] at e; exact e) hbase).2.2.2.2
  rw [List.nil_append, World.setCell_alloc_past _ _ _ _ (by rw [World.size_alloc]; omega), World.setCell_alloc_past _ _ _ _ (by omega)] at HB
  have HF := hid (Hi.Bf.start (P := P) hn)
  have HN := hid hn
  have HLe := hid hle
  have HP := hid hP
  obtain ⟨n, hnn⟩ : ∃ n, H.n = n := ⟨_, rfl⟩
  have HNN := hid hnn
  have hn1 : 1 ≤ n := by omega
  have hn72 : n ≤ 72 := by omega
  clear H0 h hsb hn hle hP hnn k0 k1
  go_enter Tryd.func46, Tryd.ntmps46
  go_wp2
  go_loopw [3] (fun v wr => ∃ (i : Nat) (O : List Nat) (d : Nat → Nat) (ov : Value), v = .int .i64 (i : Int) ∧ Hid (OaI w base H P w.heap.size O d ov wr) ∧ Hid (Hi.Bf H.n P O i d)) (fun v _ => n - (intOf v).toNat)
  case atStart => exact ⟨0, _, _, _, rfl, HB, HF⟩
  case round =>
    clear HB HF k2 kf hbl
    obtain ⟨i, O, d, ov, rfl, HB, HF⟩ := hrel
    obtain ⟨wo, hwo⟩ : ∃ wo, wo = wr := ⟨_, rfl⟩
    rw [← hwo] at HB ⊢
    clear hwo
    have hOl := HF.out.len
    have hiO := HF.out.le
    rw [HNN.out] at hOl
    have hO1 : 1 ≤ O.length := List.length_pos_of_mem ((HF.out.mem 0).2 (.inl rfl))
    obtain ⟨og, oc, hov, hol, hoc⟩ := own_at0 HB.out.hm.ord (by show 0 < O.length; omega)
    change ov = .slice (some ⟨og, 0, none⟩) O.length oc at hov
    obtain ⟨k0, k1, k2⟩ := HB.out.hm.cells
    change wo.cell? ⟨H.hb, 0, none⟩ = some H.cv at k0
    change wo.cell? ⟨H.hb, 2, none⟩ = some ov at k2
    have b0 : wo.cell? ⟨w.heap.size, 0, none⟩ = some (.pointer (some ⟨H.hb, 0, none⟩)) := HB.out.bx.cell 0
    obtain ⟨g, pc, hcv, hgl, hsi⟩ := HB.out.hm.sight (by show 1 ≤ H.n; exact HN.out)
    change H.cv = .slice (some ⟨g, 0, none⟩) H.n pc at hcv
    rw [hcv, HNN.out] at k0
    have HCV := hid hcv
    have HOV := hid hov
    rw [hov] at k2
    clear hcv k1
    by_cases hlt : i < O.length
    · obtain ⟨x, hx⟩ : ∃ x, O[i]? = some x := ⟨_, List.getElem?_eq_getElem hlt⟩
      have hxn := HF.out.lt x (List.mem_of_getElem? hx)
      have o1 := (hoc i (.int .i64 (x : Int)) (Kit.natVals_at hx)).1
      obtain ⟨-, -, -, s3⟩ := hsi x hxn
      change wo.cell? ⟨g, x * 4 + 3, none⟩ = some (H.sv x) at s3
      have hown := HB.out.hm.sub x hxn
      change wo.ownsRow base 3 1 (H.sv x) (H.sb x).length (natVals (H.sb x)) at hown
      rw [HB.out.sb x hxn] at hown
      obtain ⟨sa, sc, hsv⟩ := own_form hown
      rw [hsv] at s3
      have HSV := hid hsv
      have hchl := Hi.ch_len H.n P x
      rw [HNN.out] at hchl hxn
      obtain ⟨cl, hcl⟩ : ∃ cl, (Hi.ch H.n P x).length = cl := ⟨_, rfl⟩
      have HCL := hid hcl
      have HX := hid hx
      rw [hcl] at s3
      rw [HNN.out] at hcl
      rw [hcl] at hchl
      clear hsi hoc hown hsv hov hx hcl
      go_upto_block 1 with fail
      go_cut [4, 6] (fun _ _ wx => ∃ v2 : Value, Hid (OaI w base H P w.heap.size (O ++ Hi.ch H.n P x) (Hi.dn H.n P d x) v2 wx))
      case first =>
        go_wp2
        go_loopw [36] (fun v wr2 => ∃ j : Nat, v = .int .i64 (j : Int) ∧ j ≤ cl ∧ Hid (OaI w base H P w.heap.size O (dj H.n P d x j) ov wr2)) (fun v _ => cl - (intOf v).toNat)
        case atStart => exact ⟨0, rfl, by omega, by rw [dj_zero]; exact HB⟩
        case round =>
          clear HB s3 k0 k2 b0 o1
          obtain ⟨j, rfl, hj, HB⟩ := hrel
          obtain ⟨k0, k1, k2⟩ := HB.out.hm.cells
          change wr.cell? ⟨H.hb, 0, none⟩ = some H.cv at k0
          change wr.cell? ⟨H.hb, 2, none⟩ = some ov at k2
          rw [HCV.out, HNN.out] at k0
          rw [HOV.out] at k2
          have b0 : wr.cell? ⟨w.heap.size, 0, none⟩ = some (.pointer (some ⟨H.hb, 0, none⟩)) := HB.out.bx.cell 0
          have hbs : w.heap.size < wr.heap.size := HB.out.bx.sz
          have hhl : H.hb < wr.heap.size := HB.out.hm.hb_lt
          obtain ⟨hgl2, hsi⟩ := HB.out.hm.sightAt HCV.out HN.out
          have hown := HB.out.hm.sub x (by show x < H.n; rw [HNN.out]; exact hxn)
          change wr.ownsRow base 3 1 (H.sv x) (H.sb x).length (natVals (H.sb x)) at hown
          rw [HB.out.sb x (by rw [HNN.out]; exact hxn), HCL.out] at hown
          clear k1
          by_cases hjl : j < cl
          · obtain ⟨s, hs⟩ : ∃ s, (Hi.ch H.n P x)[j]? = some s := ⟨_, List.getElem?_eq_getElem (by rw [HCL.out]; exact hjl)⟩
            have hsm := Hi.mem_ch.1 (List.mem_of_getElem? hs)
            obtain ⟨sb, scap, hsv2, hsbl, hcell⟩ := own_at0 hown (by omega)
            have hsv3 := HSV.out
            rw [HCL.out, hsv2] at hsv3
            obtain ⟨rfl, -, rfl⟩ := Value.slice.inj hsv3
            have e1 := (hcell j (.int .i64 (s : Int)) (Kit.natVals_at hs)).1
            obtain ⟨-, -, c1, -⟩ := hsi x (by rw [HNN.out]; exact hxn)
            obtain ⟨-, -, c2, -⟩ := hsi s hsm.2.1
            change wr.cell? ⟨g, x * 4 + 2, none⟩ = some (.int .i64 ((dj H.n P d x j x : Nat) : Int)) at c1
            change wr.cell? ⟨g, s * 4 + 2, none⟩ = some (.int .i64 ((dj H.n P d x j s : Nat) : Int)) at c2
            rw [dj_self HF.out HX.out] at c1
            have hdx := HF.out.dle x (List.mem_of_getElem? HX.out)
            have hD := (HB.out.below (W' := wr.drew) (Below.drew (Below.refl _ _)) hbase).depth (d x + 1) hsm.2.1 HCV.out hbase
            rw [dj_step hs] at hD
            have ecast : ((d x + 1 : Nat) : Int) = (d x : Int) + 1 := by omega
            rw [ecast] at hD
            obtain ⟨fz, hD2⟩ := hD
            have HD := hid hD2
            have hsn := hsm.2.1
            rw [HNN.out] at hsn
            obtain ⟨dx, hdxx⟩ : ∃ dx, d x = dx := ⟨_, rfl⟩
            rw [hdxx] at c1 HD hdx
            have fz2 : wr.frozen? ⟨g, s * 4 + 2, none⟩ = false := fz
            clear hD2 fz hsi hown hcell hsv2 hsv3 hs hsm hdxx ecast
            go_wp2
            go_region
            go_wp2
            go_roundw
            case rel => exact ⟨j + 1, by go_num, by omega, HD⟩
            case measure => simp [intOf]; omega
          · obtain rfl : j = cl := by omega
            obtain ⟨-, -, -, c3⟩ := hsi x (by rw [HNN.out]; exact hxn)
            change wr.cell? ⟨g, x * 4 + 3, none⟩ = some (H.sv x) at c3
            have HOw := hid (fun X (b : Below wr.heap.size wr X) => Kit.owns_below HB.out.hm.ord b (Nat.le_refl _))
            have HSw := hid (fun X (b : Below wr.heap.size wr X) => Kit.isS_of_owns (Kit.owns_below hown b (Nat.le_refl _)) (by omega))
            have hbb := HB.out.hm.base_lt
            change Hid (∀ X, Below wr.heap.size wr X → X.ownsRow base 3 1 ov O.length (natVals O)) at HOw
            rw [HOV.out] at HOw
            rw [HSV.out, HCL.out] at HSw c3
            clear hsi hown
            have hgne : ov.ownBlock ≠ some g := fun e => own_unlike HB.out.hm.cls HB.out.hm.ord (by decide) g (show H.cv.ownBlock = some g by rw [HCV.out]; rfl) e
            have hhne : ov.ownBlock ≠ some H.hb := own_unlike_box HB.out.hm.ord HB.out.hm.box (by decide)
            have HG1 := hid hgne
            have HG2 := hid hhne
            clear hgne hhne
            go_wp2
            go_region_law (refine step_ints rfl (.tmp 61) (.tmp 69) rfl base (.slice (some ⟨og, 0, none⟩) O.length oc) O.length (natVals O) rfl (HOw.out _ (by repeat' first | with_reducible exact Below.refl _ _ | with_reducible assumption | with_reducible refine belows_drewN ?_ _ | with_reducible refine Below.drew ?_ | with_reducible refine Below.setCell ?_ ?_ _ | with_reducible refine Below.alloc ?_ ?_ _ | omega | (simp; done) | (simp; omega))) (by first | omega | (simp; omega)) (.slice sa j sc) j (natVals (Hi.ch H.n P x)) rfl (HSw.out _ (by repeat' first | with_reducible exact Below.refl _ _ | with_reducible assumption | with_reducible refine belows_drewN ?_ _ | with_reducible refine Below.drew ?_ | with_reducible refine Below.setCell ?_ ?_ _ | with_reducible refine Below.alloc ?_ ?_ _ | omega | (simp; done) | (simp; omega))) (natVals_one _) (by omega) ?_; intro v2 w3 ho3 hg3 hk3; rw [← HOV.out] at hg3 hk3; obtain ⟨qq, q0, q2, qf, hA⟩ := HB.out.app (l := Hi.ch H.n P x) (by repeat' first | with_reducible exact Below.refl _ _ | with_reducible assumption | with_reducible refine belows_drewN ?_ _ | with_reducible refine Below.drew ?_ | with_reducible refine Below.setCell ?_ ?_ _ | with_reducible refine Below.alloc ?_ ?_ _ | omega | (simp; done) | (simp; omega)) hg3 hk3 (by rw [HCL.out]; exact ho3) hbase; rw [HOV.out] at q2; have q1 := (qq ⟨H.hb, 0, none⟩ hhl HG2.out).trans k0; have q3 := (qq ⟨g, x * 4 + 3, none⟩ hgl2 HG1.out).trans c3; have HA := hid hA; obtain ⟨b2, p2, rfl⟩ := own_form ho3; clear ho3 hg3 hk3 hA qq)
            all_goals
              go_wp2
              go_meet
              exact ⟨_, by rw [← dj_all, HCL.out]; exact HA⟩
      case rest =>
        obtain ⟨v2, HA⟩ := hcut
        clear HB k0 k2 b0 s3 o1
        go_wp2
        go_roundw
        case rel => exact ⟨i + 1, _, _, _, by go_num, HA, HF.out.step HX.out⟩
        case measure => simp [intOf]; omega
    · obtain rfl : i = O.length := by omega
      haveI : Inhabited (Cn H.n) := ⟨⟨0, HN.out⟩⟩
      have hltO := HF.out.lt
      have hsz : (cnL O hltO).toArray.size = O.length := by unfold cnL; simp
      have hcon := Any.slices_SortFunc Sh.sort (encC (n := H.n)) (fun _ => rfl) (cfC d) (swo d H.n) 59 #[.pointer (some ⟨w.heap.size, 0, none⟩)] og 0 oc (cnL O hltO).toArray wo (enters_of Tryd.func59 (by kernel_rfl) rfl) (HB.out.cmp HN.out HOV.out _) (holdsC hltO hoc) hol (by omega)
      change Calls Tryd.prog 58 _ _ _ at hcon
      have HCo := hid hcon
      rw [hsz] at HCo
      clear hcon hsi hoc
      have hbs := HB.out.bx.sz
      go_wp2_with (go_at_call 58; refine HCo.out.mono ?_; rintro e w3 ⟨rfl, d', m, os, hp, hs, hw3⟩; have HW3 := hid hw3; have HP3 := hid hp; have HS3 := hid hs; clear hw3 hp hs)
      have hd' : d'.size = O.length := by have := HP3.out.1; omega
      have hch := sortW_chg (encC (n := H.n)) (w := wo) (blk := og) m d' os
      rw [← HW3.out] at hch
      have hob : ov.ownBlock = some og := by rw [HOV.out]; rfl
      have ho0 := HB.out.hm.ord
      change wo.ownsRow base 3 1 ov O.length (natVals O) at ho0
      rw [HOV.out] at ho0
      have ho3 := sortW_own (encC (n := H.n)) ho0 m d' os hd'
      rw [← HW3.out, enc_vals, ← HOV.out] at ho3
      have hM3 := HB.out.hm.setOd (l := d'.toList.map (·.1)) (hch.mono (T := fun i => ov.ownBlock = some i) (fun j _ e => by rw [e]; exact hob)) (by rw [List.length_map, Array.length_toList, hd']; exact ho3)
      have bx3 := HB.out.bx.chg hch (fun e => own_unlike_box HB.out.hm.ord HB.out.bx (by decide) (show ov.ownBlock = _ by rw [e]; exact hob))
      have hB3 := HB.out.bel.trans (hch.to_below (fun j e => by rw [e]; exact Kit.own_base HB.out.hm.ord og hob) (Nat.le_trans hbase HB.out.sz))
      have hsz3 := Nat.le_trans HB.out.sz hch.size
      have b3 : w3.cell? ⟨w.heap.size, 0, none⟩ = some (.pointer (some ⟨H.hb, 0, none⟩)) := bx3.cell 0
      obtain ⟨z0, -, z2⟩ := hM3.cells
      change w3.cell? ⟨H.hb, 0, none⟩ = some H.cv at z0
      change w3.cell? ⟨H.hb, 2, none⟩ = some ov at z2
      rw [HCV.out, HNN.out] at z0
      rw [HOV.out] at z2
      have HM3 := hid hM3
      have HB3 := hid hB3
      clear hM3 hB3 hch ho3 ho0 bx3 k0 k2 b0 hob
      go_quiet (fail)
      go_wp2
      go_ret
      have HBq := belows HB3.out (below_drewN w3 nq) (Nat.le_trans hbase hsz3)
      by_cases hO : O.length = n
      · have tr := HF.out.full HN.out HP.out (by rw [HNN.out]; exact hO)
        have hso := sorted_ord tr hltO HF.out.nd (Hi.all_in HF.out.nd hltO (by rw [HNN.out]; exact hO)) (d' := d') (by rw [hsz]; exact HP3.out) (by rw [hsz]; exact HS3.out)
        refine ⟨HBq, hsz3, .inr ⟨by simp [hO], d, ov, tr, ?_⟩⟩
        have := HM3.out.drewN nq
        rw [hso.1] at this
        exact this
      · refine ⟨HBq, hsz3, .inl ⟨by simp; omega, ?_⟩⟩
        rintro ⟨D, tr⟩
        have := HF.out.all tr
        rw [HNN.out] at this
        exact hO this
end Go.Proofs.YtlbkhmfgbonelaaDoor
namespace Go.Proofs.YtlbkhmfgbonelaaDoor
open Go Go.RowKit
open Kit (natVals)

theorem infoLn : (Tryd.prog.info? 59).map (fun i => (i.zero, i.size, i.bytes)) = some (some (.agg #[.string ⟨#[]⟩, .string ⟨#[]⟩]), 2, 32) := by kernel_rfl
theorem src_noneL (c : Nat) (w : World) : Src Tryd.prog 2 32 (.slice none 0 c) 0 [] w :=
  ⟨.inl ⟨_, Tryd.underlying32⟩, fun _ => rfl, rfl, rfl, rfl, fun u hu => by cases hu⟩
/-- An append of lines that are read. -/
theorem wpList_lines {ops : Array Oper} {rest : List Oper} {o : Oper} {a : Act} {w : World} {Q : Exit → Act → World → Prop} (hgd : o.guard = none) (s x : Operand)
    (hop : o.op = Op.call { callee := Callee.builtin Builtin.append, args := #[s, x], argTypes := #[32, 32] })
    (B : Nat) (v : Value) (n : Nat) (xs : List Value) (hs : a.eval s = v) (hown : w.ownsRow B 59 2 v n xs) (hB : B ≤ w.heap.size)
    (xv : Value) (m : Nat) (news : List Value) (hx : a.eval x = xv) (hr : Kit.IsS 2 w xv m news) (h1 : ∀ u ∈ news, u.oneCell' = true) (hnm : n + m ≤ 10000000)
    (hK : ∀ v' w', w'.ownsRow B 59 2 v' (n + m) (xs ++ news) → w.grownBy w' v.ownBlock → wpList Tryd.prog ops Q rest (a.put o.dst v') w') : wpList Tryd.prog ops Q (o :: rest) a w := by
  obtain ⟨i0, hi, hz0, hz1, hz2⟩ := info_parts infoLn
  have some' : ∀ ad c, xv = .slice (some ad) m c → (∀ j u, news[j]? = some u → w.cell? (ad.add j) = some u) → wpList Tryd.prog ops Q (o :: rest) a w := fun ad c he hc => by
    subst he
    refine wpList_plain hgd fun K hK2 => ?_
    obtain ⟨v', w', hr', h2, h3, -, h5⟩ := run_append_own_at (P := Tryd.prog) w B 32 o.type 59 i0 _ 2 32 Tryd.underlying32 hi hz0 hz1 hz2 rfl (by decide) v n xs hown ad m c news hr.1 hc h1 (by unfold maxLen; omega) (by omega) hB
    unfold Oper.wp execOp
    simp only [hop, resolve, invoke, builtin, Sem.run_bind, Sem.run_pure, Result.andThen_ok, List.map_toArray, List.map_cons, List.map_nil, hs, hx, hr']
    exact hK2 _ _ (hK _ _ h2 h3)
  rcases hr.2.2 with ⟨h0, ad, c, he⟩ | ⟨b, ofs, c, he, -, -, hc⟩
  · subst h0
    have hn : news = [] := List.eq_nil_of_length_eq_zero (by simpa using hr.1)
    cases ad with
    | some ad => exact some' ad c he (fun j u hj => by rw [hn] at hj; simp at hj)
    | none =>
      subst hn he
      have hcap : ∃ ad' n' c', v = .slice ad' n' c' ∧ n' ≤ c' := by
        rcases hown.2 with ⟨h, -⟩ | ⟨g, cap, cur, h, -, -, h4, -⟩
        · exact ⟨none, 0, 0, h, Nat.le_refl _⟩
        · exact ⟨_, _, _, h, h4⟩
      obtain ⟨ad', n', c', he', hle⟩ := hcap
      refine wpList_plain hgd fun K hK2 => ?_
      have hr' := run_append_nothing (P := Tryd.prog) w 32 32 o.type 59 i0 Tryd.underlying32 hi ad' n' c' hle (.slice none 0 c) (by rw [hz1]; exact src_noneL c w)
      rw [← he'] at hr'
      unfold Oper.wp execOp
      simp only [hop, resolve, invoke, builtin, Sem.run_bind, Sem.run_pure, Result.andThen_ok, List.map_toArray, List.map_cons, List.map_nil, hs, hx, hr']
      exact hK2 _ _ (hK _ _ (by simpa using hown) ⟨rfl, rfl, rfl, Nat.le_refl _, fun _ _ _ => rfl⟩)
  · exact some' _ c he (fun j u hj => by rw [Go.WideShapes.add_plain]; exact hc j u hj)
theorem lines_one (l : List Hi.Ln) : ∀ u ∈ l.flatMap lnL, u.oneCell' = true := by
  intro u hu
  obtain ⟨x, -, hx⟩ := List.mem_flatMap.1 hu
  simp only [lnL, List.mem_cons, List.not_mem_nil, or_false] at hx
  rcases hx with rfl | rfl <;> rfl
set_option maxRecDepth 100000 in
theorem builtIn_any (w : World) : Calls Tryd.prog 43 #[] w fun e w' => e = .returned (.slice (some ⟨w.heap.size, 0, none⟩) 8 8) ∧ w' = w.alloc (.cells (Hi.bl.flatMap lnL).toArray 59) := by
  go_enter Tryd.func43, Tryd.ntmps43
  go_wp2
  go_ret
  exact ⟨rfl, rfl⟩
/-- What hier.New answers. -/
def NewP (l : List Hi.Ln) (w : World) (e : Ending) (w' : World) : Prop :=
  ∃ v, e = .returned (.tuple #[v, .int .i64 (Hi.err l)]) ∧ Below w.heap.size w w' ∧ (Hi.err l ≠ 0 → v = .pointer none) ∧
    (Hi.err l = 0 → ∃ H D, v = .pointer (some ⟨H.hb, 0, none⟩) ∧ HM w' w.heap.size H ∧ HOk H (Hi.sup (Hi.bl ++ l)) D ∧ H.n = 8 + l.length ∧ H.names = Hi.nms (Hi.bl ++ l) ∧ H.nm = Hi.nmf (Hi.bl ++ l))
theorem NewP.bad {l : List Hi.Ln} {w w' : World} {k : Int} (he : Hi.err l = k) (hk : k ≠ 0) (hb : Below w.heap.size w w') : NewP l w (.returned (.tuple #[.pointer none, .int .i64 k])) w' :=
  ⟨_, by rw [he], hb, fun _ => rfl, fun h => absurd (he.symm.trans h) hk⟩
def H0 (hb mb : Nat) (L : List Hi.Ln) : HV := ⟨hb, mb, .slice none 0 0, .slice none 0 0, 0, Hi.nmf L, fun _ => -1, fun _ => 0, fun _ => .slice none 0 0, fun _ => [], []⟩
theorem H0.rep (w : World) (base : Nat) (hB : base ≤ w.heap.size) (L : List Hi.Ln) : HM ((w.alloc (.map #[] 0)).alloc (.cells #[.slice none 0 0, .map (some w.heap.size), .slice none 0 0] 76)) base (H0 (w.heap.size + 1) w.heap.size L) := by
  refine ⟨?_, ?_, ⟨rfl, .inl ⟨rfl, rfl⟩⟩, ⟨rfl, .inl ⟨rfl, rfl⟩⟩, (fun k hk => by cases hk), (fun i j hi => by cases hi), (fun i hi => by cases hi), by show base ≤ w.heap.size + 1; omega, hB⟩
  · have := BX.new (w.alloc (.map #[] 0)) #[.slice none 0 0, .map (some w.heap.size), .slice none 0 0] 76
    rw [World.size_alloc] at this
    exact this
  · exact (NmM.new w).keep (((Below.refl (w.alloc (.map #[] 0)).heap.size _).alloc (Nat.le_refl _) _).block _ (by simp))
theorem err_long {l : List Hi.Ln} (h : 64 < l.length) : Hi.err l = 3 := by unfold Hi.err; rw [if_pos h]
theorem err_name {l : List Hi.Ln} (h : ¬ 64 < l.length) (h1 : ¬ (Hi.nms (Hi.bl ++ l)).Nodup) : Hi.err l = 70 := by unfold Hi.err Hi.errL; rw [if_neg h, if_pos h1]
theorem err_super {l : List Hi.Ln} (h : ¬ 64 < l.length) (h1 : (Hi.nms (Hi.bl ++ l)).Nodup) (h2 : ∃ k x, 1 ≤ k ∧ (Hi.bl ++ l)[k]? = some x ∧ Hi.idx x.2 (Hi.nms (Hi.bl ++ l)) = none) : Hi.err l = 71 := by
  unfold Hi.err Hi.errL
  rw [if_neg h, if_neg (fun k => k h1), if_pos h2]
theorem err_cycle {l : List Hi.Ln} (h : ¬ 64 < l.length) (h1 : (Hi.nms (Hi.bl ++ l)).Nodup) (h2 : ∀ k x, 1 ≤ k → (Hi.bl ++ l)[k]? = some x → Hi.idx x.2 (Hi.nms (Hi.bl ++ l)) ≠ none) (h3 : ¬ ∃ D, Hi.Tr (Hi.bl ++ l).length (Hi.sup (Hi.bl ++ l)) D) : Hi.err l = 72 := by
  unfold Hi.err Hi.errL
  rw [if_neg h, if_neg (fun k => k h1), if_neg (by rintro ⟨k, x, a, b, c⟩; exact h2 k x a b c), if_pos h3]
theorem err_ok {l : List Hi.Ln} (h : ¬ 64 < l.length) (h1 : (Hi.nms (Hi.bl ++ l)).Nodup) (h2 : ∀ k x, 1 ≤ k → (Hi.bl ++ l)[k]? = some x → Hi.idx x.2 (Hi.nms (Hi.bl ++ l)) ≠ none) (h3 : ∃ D, Hi.Tr (Hi.bl ++ l).length (Hi.sup (Hi.bl ++ l)) D) : Hi.err l = 0 := by
  unfold Hi.err Hi.errL
  rw [if_neg h, if_neg (fun k => k h1), if_neg (by rintro ⟨k, x, a, b, c⟩; exact h2 k x a b c), if_neg (fun k => k h3)]
theorem bl_small : ∀ x ∈ Hi.bl, x.1.size ≤ maxLen ∧ x.2.size ≤ maxLen := by
  intro x hx
  have : x.1.size ≤ 100 ∧ x.2.size ≤ 100 := by revert x; decide
  unfold maxLen
  omega
theorem made_ok {l : List Hi.Ln} {H : HV} {sv : Nat → Value} {ov : Value} {D : Nat → Nat} (hl : l.length ≤ 64) (tr : Hi.Tr (Hi.bl ++ l).length (Hi.sup (Hi.bl ++ l)) D) (hn : H.n = (Hi.bl ++ l).length) :
    HOk { hung H (Hi.bl ++ l) (Hi.bl ++ l).length sv with ov := ov, od := Hi.ordL H.n D, dp := D } (Hi.sup (Hi.bl ++ l)) D := by
  refine ⟨by show Hi.Tr H.n _ _; rw [hn]; exact tr, by show H.n ≤ 72; rw [hn, List.length_append, Hi.bl_len]; omega, fun k hk => ?_, fun k _ => rfl, fun k hk => ?_, rfl⟩
  · show suK _ _ k = _
    have hk' : k < (Hi.bl ++ l).length := by rw [← hn]; exact hk
    unfold suK
    by_cases h0 : k = 0
    · rw [if_pos h0, if_neg (by omega)]
    · rw [if_neg h0, if_pos ⟨by omega, hk'⟩]
  · show Hi.ch (Hi.bl ++ l).length _ k = Hi.ch H.n _ k
    rw [hn]
set_option maxRecDepth 100000 in
set_option maxHeartbeats 2000000 in
theorem New_any {w : World} {lv : Value} {l : List Hi.Ln} (hl : Kit.IsS 2 w lv l.length (l.flatMap lnL)) (hs : ∀ x ∈ l, x.1.size ≤ maxLen ∧ x.2.size ≤ maxLen) : Calls Tryd.prog 30 #[lv] w (NewP l w) := by
  have hll := hl.2.1
  have HLV := hid (fun X (b : Below w.heap.size w X) => hl.below b (Nat.le_refl _))
  obtain ⟨la, lc, rfl⟩ := hl.len
  clear hl
  by_cases h64 : 64 < l.length
  · have H64 := hid (err_long h64)
    go_enter Tryd.func30, Tryd.ntmps30
    go_wp2
    exact bodyPost_ret (v := .tuple #[.pointer none, .int .i64 3]) (by simp [results, Tryd.results30, go_sem]) rfl (NewP.bad H64.out (by decide) (Below.refl _ _))
  · have H64 := hid h64
    have hl64 : l.length ≤ 64 := by omega
    have HBi := hid (builtIn_any w)
    have HSz := hid (show ∀ x ∈ Hi.bl ++ l, x.1.size ≤ maxLen ∧ x.2.size ≤ maxLen from fun x hx => by
      rcases List.mem_append.1 hx with h | h
      · exact bl_small x h
      · exact hs x h)
    have hmm := @run_makeMap Tryd.prog
    have hown0 : (w.alloc (.cells (Hi.bl.flatMap lnL).toArray 59)).ownsRow w.heap.size 59 2 (.slice (some ⟨w.heap.size, 0, none⟩) 8 8) 8 (Hi.bl.flatMap lnL) :=
      ⟨rfl, .inr ⟨w.heap.size, 8, _, rfl, Nat.le_refl _, heap_alloc_last w _, Nat.le_refl _, by unfold maxLen; omega, rfl, rfl⟩⟩
    have HO0 := hid hown0
    clear h64 hs hown0
    go_enter Tryd.func30, Tryd.ntmps30
    go_wp2_with (first | (go_at_call 43; refine HBi.out.mono ?_; rintro e w1 ⟨rfl, rfl⟩) | (at_builtin; refine wpList_lines rfl (.tmp 9) (.tmp 10) rfl w.heap.size (.slice (some ⟨w.heap.size, 0, none⟩) 8 8) 8 (Hi.bl.flatMap lnL) rfl HO0.out (by simp) (.slice la l.length lc) l.length (l.flatMap lnL) rfl (HLV.out _ (by repeat' first | with_reducible exact Below.refl _ _ | with_reducible assumption | with_reducible refine belows_drewN ?_ _ | with_reducible refine Below.drew ?_ | with_reducible refine Below.setCell ?_ ?_ _ | with_reducible refine Below.alloc ?_ ?_ _ | omega | (simp; done) | (simp; omega))) (lines_one l) (by omega) ?_; intro v1 w1 ho1 hg1; have hb1 : Below w.heap.size w w1 := Kit.below_grown ((Below.refl _ w).alloc (Nat.le_refl _) (.cells (Hi.bl.flatMap lnL).toArray 59)) hg1 (by simp) (Kit.own_base HO0.out); have HLn := hid (show Lns w1 w.heap.size v1 (Hi.bl ++ l) by unfold Lns; rw [List.length_append, Hi.bl_len, List.flatMap_append]; exact ho1); have HB1 := hid hb1; clear ho1 hg1 hb1))
    have hz1 := HB1.out.size
    have hrep := H0.rep w1 w.heap.size hz1 (Hi.bl ++ l)
    have hb3 : Below w1.heap.size w1 ((w1.alloc (.map #[] 0)).alloc (.cells #[.slice none 0 0, .map (some w1.heap.size), .slice none 0 0] 76)) := ((Below.refl _ w1).alloc (Nat.le_refl _) _).alloc (by simp) _
    have hbare : Bare (H0 (w1.heap.size + 1) w1.heap.size (Hi.bl ++ l)) (Hi.bl ++ l) := ⟨rfl, rfl, fun _ => rfl, fun _ => rfl, fun _ => rfl, fun _ => rfl, rfl⟩
    have hLl : (Hi.bl ++ l).length ≤ 72 := by rw [List.length_append, Hi.bl_len]; omega
    have hNa := nameAll_any hrep (HLn.out.below hb3) hbare hLl (fun x hx => (HSz.out x hx).1)
    have HNa := hid hNa
    have HB3 := hid (belows HB1.out hb3 hz1)
    obtain ⟨W3, hW3⟩ : ∃ W3, W3 = (w1.alloc (.map #[] 0)).alloc (.cells #[.slice none 0 0, .map (some w1.heap.size), .slice none 0 0] 76) := ⟨_, rfl⟩
    rw [← hW3] at HNa HB3 ⊢
    have hz3 := HB3.out.size
    have HPn := hid (show 1 ≤ (Hi.bl ++ l).length by rw [List.length_append, Hi.bl_len]; omega)
    have HLl := hid hLl
    clear hW3 hrep hb3 hbare hLl hNa hmm
    obtain ⟨H1, hH1⟩ : ∃ H1, H1 = H0 (w1.heap.size + 1) w1.heap.size (Hi.bl ++ l) := ⟨_, rfl⟩
    have HH1 := hid hH1
    have ehb : H1.hb = w1.heap.size + 1 := by rw [hH1]; rfl
    rw [← hH1] at HNa
    rw [← ehb]
    clear hH1 ehb
    refine HNa.out.mono ?_
    rintro e w4 ⟨hb4, hz4, (⟨rfl, hnd⟩ | ⟨rfl, hnd, cv, hm4, hl4⟩)⟩
    · have HB4 := hid (HB3.out.trans hb4)
      have HE := hid (err_name H64.out hnd)
      clear hnd hb4
      go_wp2
      exact bodyPost_ret (v := .tuple #[.pointer none, .int .i64 70]) (by simp [results, Tryd.results30, go_sem]) rfl (NewP.bad HE.out (by decide) HB4.out)
    · have HB4 := hid (HB3.out.trans hb4)
      have hHa := hangAll_any hm4 hl4 rfl HLl.out (by show H1.nm = _; rw [HH1.out]; rfl) (fun x hx => (HSz.out x hx).2) (fun k => by show H1.su k = _; rw [HH1.out]; rfl) (fun k => by show H1.sb k = _; rw [HH1.out]; rfl)
      change Calls _ _ #[.pointer (some ⟨H1.hb, 0, none⟩), v1] w4 _ at hHa
      have HHa := hid hHa
      have HND := hid hnd
      clear hHa hm4 hl4 hnd hb4 HNa
      go_wp2_with fail
      refine HHa.out.mono ?_
      rintro e w5 ⟨hb5, hz5, (⟨rfl, hbad⟩ | ⟨rfl, hok, sv, hm5⟩)⟩
      · have HB5 := hid (HB4.out.trans hb5)
        have HE := hid (err_super H64.out HND.out hbad)
        clear hbad hb5
        go_wp2
        exact bodyPost_ret (v := .tuple #[.pointer none, .int .i64 71]) (by simp [results, Tryd.results30, go_sem]) rfl (NewP.bad HE.out (by decide) HB5.out)
      · have HB5 := hid (HB4.out.trans hb5)
        have hOr := orderAll_any (P := Hi.sup (Hi.bl ++ l)) hm5 HPn.out HLl.out (fun k _ _ => Hi.sup_lt _ HPn.out k) (fun k _ => rfl) (by show H1.od = _; rw [HH1.out]; rfl) (by show H1.dp = _; rw [HH1.out]; rfl)
        change Calls _ _ #[.pointer (some ⟨H1.hb, 0, none⟩)] w5 _ at hOr
        have HOr := hid hOr
        have HOk := hid hok
        clear hOr hm5 hok hb5 HHa
        go_wp2_with fail
        refine HOr.out.mono ?_
        rintro e w6 ⟨hb6, hz6, (⟨rfl, hbad⟩ | ⟨rfl, D, ov, tr, hm6⟩)⟩
        · have HB6 := hid (HB5.out.trans hb6)
          have HE := hid (err_cycle H64.out HND.out HOk.out hbad)
          clear hbad hb6
          go_wp2
          exact bodyPost_ret (v := .tuple #[.pointer none, .int .i64 72]) (by simp [results, Tryd.results30, go_sem]) rfl (NewP.bad HE.out (by decide) HB6.out)
        · have HB6 := hid (HB5.out.trans hb6)
          have HE := hid (err_ok H64.out HND.out HOk.out ⟨D, tr⟩)
          have HT := hid tr
          have HM6 := hid hm6
          clear hm6 tr hb6
          go_wp2
          refine bodyPost_ret (v := .tuple #[.pointer (some ⟨H1.hb, 0, none⟩), .int .i64 0]) (by simp [results, Tryd.results30, go_sem]) rfl ⟨.pointer (some ⟨H1.hb, 0, none⟩), by rw [HE.out], HB6.out, fun h => absurd HE.out h, fun _ => ⟨{ hung { H1 with cv := cv, n := (Hi.bl ++ l).length } (Hi.bl ++ l) (Hi.bl ++ l).length sv with ov := ov, od := Hi.ordL (Hi.bl ++ l).length D, dp := D }, D, rfl, HM6.out, made_ok (H := { H1 with cv := cv, n := (Hi.bl ++ l).length }) hl64 HT.out rfl, by show (Hi.bl ++ l).length = _; rw [List.length_append, Hi.bl_len], ?_, ?_⟩⟩
          · show (List.range (Hi.bl ++ l).length).map H1.nm = _
            rw [HH1.out]
            exact (Hi.nms_eq _).symm
          · show H1.nm = _
            rw [HH1.out]
            rfl
end Go.Proofs.YtlbkhmfgbonelaaDoor
