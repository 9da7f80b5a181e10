/- Contract of opcode.Next. -/
import Derived.Test.YtihklojiionanaaDoorOpS
namespace Go.Proofs.YtihklojiionanaaDoor
open Go.RowKit

def nxB (l : List Op1.Ins) (x : Op1.Ins) (i k : Nat) : Bool := (k == i + 1 && !Op1.endsB x.op) || (jB x.op && match l[k]? with | some y => y.p == x.a | none => false)
def nextL (l : List Op1.Ins) (i : Int) : List Nat :=
  if 0 ≤ i then match l[i.toNat]? with
    | some x => (List.range l.length).filter (nxB l x i.toNat)
    | none => []
  else []
def OwnN (w : World) (base : Nat) (v : Value) (ns : List Nat) : Prop := w.ownsRow base 3 1 v ns.length (Kit.natVals ns)
def NextPost (ns : List Nat) (w : World) (e : Ending) (w' : World) : Prop := ∃ v, e = .returned v ∧ OwnN w' w.heap.size v ns ∧ Below w.heap.size w w'
theorem nilN (w : World) (base : Nat) : OwnN w base (.slice none 0 0) [] := ⟨rfl, .inl ⟨rfl, rfl⟩⟩
theorem ownN_snoc {w : World} {base : Nat} {v : Value} {ns : List Nat} {k : Nat} (h : w.ownsRow base 3 1 v (ns.length + 1) (Kit.natVals ns ++ [.int .i64 (k : Int)])) : OwnN w base v (ns ++ [k]) := by
  unfold OwnN
  rw [Kit.natVals_snoc]; simpa using h
theorem owns_mono {w : World} {base base' : Nat} {e : TypeId} {size : Nat} {v : Value} {n : Nat} {xs : List Value} (h : w.ownsRow base e size v n xs) (hb : base' ≤ base) : w.ownsRow base' e size v n xs :=
  ⟨h.1, h.2.imp id fun ⟨g, cap, cur, hv, hg, r⟩ => ⟨g, cap, cur, hv, Nat.le_trans hb hg, r⟩⟩
theorem A.info3 : (Tryd.prog.info? 3).map (fun i => (i.zero, i.size, i.bytes)) = some (some (.int .i64 0), 1, 8) := by kernel_rfl
theorem filter_le (f : Nat → Bool) (k : Nat) : ((List.range k).filter f).length ≤ k := by
  have := List.length_filter_le f (List.range k)
  simpa using this
theorem filter_no {f : Nat → Bool} {k : Nat} (h : f k = false) : (List.range (k + 1)).filter f = (List.range k).filter f := by
  rw [List.range_succ, List.filter_append]; simp [h]
theorem filter_yes {f : Nat → Bool} {k : Nat} (h : f k = true) : (List.range (k + 1)).filter f = (List.range k).filter f ++ [k] := by
  rw [List.range_succ, List.filter_append]; simp [h]

set_option maxRecDepth 100000 in
set_option maxHeartbeats 1000000 in
theorem next_any (l : List Op1.Ins) (v : Value) (i : Int) (w : World) (ht : Tabs w) (hl : Kit.IsS 4 w v l.length (insCells l)) (hn : l.length * 32 ≤ 140737488355328) :
    Calls Tryd.prog 33 #[v, .int .i64 i] w (NextPost (nextL l i) w) := by
  have hs0 := ht.size
  have HT := hid (fun W (h : Below w.heap.size w W) => ht.below h ht.size)
  have HL := hid hl
  obtain ⟨a, cap, hv⟩ := hl.len
  subst hv
  clear hl ht
  by_cases h0 : i < 0 ∨ (l.length : Int) ≤ i
  · have hnil : nextL l i = [] := by
      unfold nextL
      rcases h0 with h | h
      · rw [if_neg (by omega)]
      · split
        · rw [List.getElem?_eq_none (by omega)]
        · rfl
    rw [hnil]
    rcases h0 with h0 | h0
    · have hd : decide (i < 0) = true := by simpa using h0
      go_enter Tryd.func33, Tryd.ntmps33
      go_wp2
      go_ret
      exact ⟨_, rfl, nilN _ _, (by repeat' first | with_reducible exact Below.refl _ _ | with_reducible assumption | with_reducible refine belows_drewN ?_ _ | with_reducible refine Below.drew ?_ | with_reducible refine Below.setCell ?_ ?_ _ | with_reducible refine Below.alloc ?_ ?_ _ | omega | (simp; done) | (simp; omega))⟩
    · have hd : decide (i < 0) = false := by simp; omega
      go_enter Tryd.func33, Tryd.ntmps33
      go_wp2
      go_ret
      exact ⟨_, rfl, nilN _ _, (by repeat' first | with_reducible exact Below.refl _ _ | with_reducible assumption | with_reducible refine belows_drewN ?_ _ | with_reducible refine Below.drew ?_ | with_reducible refine Below.setCell ?_ ?_ _ | with_reducible refine Below.alloc ?_ ?_ _ | omega | (simp; done) | (simp; omega))⟩
  · obtain ⟨q, rfl⟩ := Int.eq_ofNat_of_zero_le (show 0 ≤ i by omega)
    have hq : q < l.length := by omega
    have hd : decide ((q : Int) < 0) = false := by simp
    obtain ⟨x, hx⟩ : ∃ x, l[q]? = some x := ⟨l[q], List.getElem?_eq_getElem hq⟩
    have hnx : nextL l q = (List.range l.length).filter (nxB l x q) := by
      unfold nextL
      rw [if_pos (by omega), Int.toNat_natCast, hx]
    rw [hnx]
    obtain ⟨b, o, cap', hv, hb, c0, c1, c2, c3⟩ := ins_at HL.out hx
    obtain ⟨rfl, -, rfl⟩ := Value.slice.inj hv
    obtain ⟨i0, hi, hz0, hz1, hz2⟩ := info_parts A.info3
    have HE := hid (fun W => ends_any x.op W)
    have HJ := hid (fun W (h : Below w.heap.size w W) => jumps_any x.op W (HT.out W h))
    have HF : Hid (∀ k y, l[k]? = some y → nxB l x q k = ((k == q + 1 && !Op1.endsB x.op) || (jB x.op && y.p == x.a))) := fun k y hk => by unfold nxB; rw [hk]
    generalize Op1.endsB x.op = en at *
    generalize jB x.op = J at *
    obtain ⟨xp, xop, xa, xb⟩ := x
    dsimp only at c0 c1 c2 c3
    generalize nxB l _ q = f at *
    clear hx hv hnx h0
    go_enter Tryd.func33, Tryd.ntmps33
    go_wp2
    go_loopw [24, 6] (fun k v wr => ∃ n : Nat, n ≤ l.length ∧ k = .int .i64 n ∧ OwnN wr (w.heap.size + 1) v ((List.range n).filter f) ∧ wr.cell? ⟨w.heap.size, 1, none⟩ = some (.int .i64 xop) ∧ wr.cell? ⟨w.heap.size, 2, none⟩ = some (.int .i64 xa) ∧ w.heap.size < wr.heap.size ∧ Below w.heap.size w wr) (fun k _ _ => l.length - (intOf k).toNat)
    case atStart => exact ⟨0, by omega, rfl, nilN _ _, by simp [go_sem], by simp [go_sem], by simp, (by repeat' first | with_reducible exact Below.refl _ _ | with_reducible assumption | with_reducible refine belows_drewN ?_ _ | with_reducible refine Below.drew ?_ | with_reducible refine Below.setCell ?_ ?_ _ | with_reducible refine Below.alloc ?_ ?_ _ | omega | (simp; done) | (simp; omega))⟩
    case round =>
      obtain ⟨k, hk, rfl, hown, hx1, hx2, hsz, hbl⟩ := hrel
      by_cases hlt : k < l.length
      · obtain ⟨y, hy⟩ : ∃ y, l[k]? = some y := ⟨l[k], List.getElem?_eq_getElem hlt⟩
        obtain ⟨b', o', cap'', hv, hb', d0, d1, d2, d3⟩ := ins_at (HL.out.below hbl (Nat.le_refl _)) hy
        obtain ⟨e1, -, e2⟩ := Value.slice.inj hv
        obtain ⟨rfl, rfl, -⟩ := Addr.mk.inj (Option.some.inj e1)
        obtain rfl := e2
        have hf := HF.out k y hy
        obtain ⟨yp, yop, ya, yb⟩ := y
        dsimp only at d0 d1 d2 d3 hf
        obtain ⟨b1, hb1⟩ : ∃ b1, b1 = (k == q + 1) := ⟨_, rfl⟩
        have hb1' : ((k : Int) == (q : Int) + 1) = b1 := by rw [hb1, Bool.eq_iff_iff]; simp; omega
        obtain ⟨b4, hb4⟩ : ∃ b4, (yp == xa) = b4 := ⟨_, rfl⟩
        rw [← hb1, hb4] at hf
        have Hf := hid hf
        clear hf hb1 hy hv e1
        cases b1
        · cases J
          · (have hfk : f k = false := Hf.out; have HK := hid hfk; clear hfk; go_wp2_with (first | (go_at_call 19; refine (HE.out _).mono ?_; rintro e w' ⟨rfl, rfl⟩) | (go_at_call 50; refine (HJ.out _ (by repeat' first | with_reducible exact Below.refl _ _ | with_reducible assumption | with_reducible refine belows_drewN ?_ _ | with_reducible refine Below.drew ?_ | with_reducible refine Below.setCell ?_ ?_ _ | with_reducible refine Below.alloc ?_ ?_ _ | omega | (simp; done) | (simp; omega))).mono ?_; rintro e w' ⟨rfl, rfl⟩) | (at_builtin; refine wpList_append_own _ rfl (.tmp 52) (.tmp 54) 49 rfl (w.heap.size + 1) 3 i0 _ 1 8 Tryd.underlying49 hi hz0 hz1 hz2 rfl (by decide) _ _ _ rfl ((hown.alloc _).alloc _) ⟨wr.heap.size + 1, 0, none⟩ 1 1 [.int .i64 (k : Int)] rfl rfl (by have := Kit.news_one (wr.alloc (Obj.cells #[Value.int IntKind.i64 yp, Value.int IntKind.i64 yop, Value.int IntKind.i64 ya, Value.int IntKind.i64 yb] 35)) (.int .i64 (k : Int)) 3; simpa using this) (Kit.ones_one rfl) (by have := filter_le f k; unfold maxLen; omega) (by have := filter_le f k; omega) (by simp only [World.size_alloc]; omega) ?_; intro v' w1 hown' hgrow _)); go_roundw; (case rel => exact ⟨k + 1, by omega, by go_num, by rw [filter_no HK.out]; exact hown.alloc _, by rw [World.cell?_alloc_past _ _ _ hsz]; exact hx1, by rw [World.cell?_alloc_past _ _ _ hsz]; exact hx2, by simp; omega, (by repeat' first | with_reducible exact Below.refl _ _ | with_reducible assumption | with_reducible refine belows_drewN ?_ _ | with_reducible refine Below.drew ?_ | with_reducible refine Below.setCell ?_ ?_ _ | with_reducible refine Below.alloc ?_ ?_ _ | omega | (simp; done) | (simp; omega))⟩); (case measure => simp [intOf]; omega))
          · cases b4
            · (have hfk : f k = false := Hf.out; have HK := hid hfk; clear hfk; go_wp2_with (first | (go_at_call 19; refine (HE.out _).mono ?_; rintro e w' ⟨rfl, rfl⟩) | (go_at_call 50; refine (HJ.out _ (by repeat' first | with_reducible exact Below.refl _ _ | with_reducible assumption | with_reducible refine belows_drewN ?_ _ | with_reducible refine Below.drew ?_ | with_reducible refine Below.setCell ?_ ?_ _ | with_reducible refine Below.alloc ?_ ?_ _ | omega | (simp; done) | (simp; omega))).mono ?_; rintro e w' ⟨rfl, rfl⟩) | (at_builtin; refine wpList_append_own _ rfl (.tmp 52) (.tmp 54) 49 rfl (w.heap.size + 1) 3 i0 _ 1 8 Tryd.underlying49 hi hz0 hz1 hz2 rfl (by decide) _ _ _ rfl ((hown.alloc _).alloc _) ⟨wr.heap.size + 1, 0, none⟩ 1 1 [.int .i64 (k : Int)] rfl rfl (by have := Kit.news_one (wr.alloc (Obj.cells #[Value.int IntKind.i64 yp, Value.int IntKind.i64 yop, Value.int IntKind.i64 ya, Value.int IntKind.i64 yb] 35)) (.int .i64 (k : Int)) 3; simpa using this) (Kit.ones_one rfl) (by have := filter_le f k; unfold maxLen; omega) (by have := filter_le f k; omega) (by simp only [World.size_alloc]; omega) ?_; intro v' w1 hown' hgrow _)); go_roundw; (case rel => exact ⟨k + 1, by omega, by go_num, by rw [filter_no HK.out]; exact hown.alloc _, by rw [World.cell?_alloc_past _ _ _ hsz]; exact hx1, by rw [World.cell?_alloc_past _ _ _ hsz]; exact hx2, by simp; omega, (by repeat' first | with_reducible exact Below.refl _ _ | with_reducible assumption | with_reducible refine belows_drewN ?_ _ | with_reducible refine Below.drew ?_ | with_reducible refine Below.setCell ?_ ?_ _ | with_reducible refine Below.alloc ?_ ?_ _ | omega | (simp; done) | (simp; omega))⟩); (case measure => simp [intOf]; omega))
            · (have hfk : f k = true := Hf.out; have HK := hid hfk; clear hfk; go_wp2_with (first | (go_at_call 19; refine (HE.out _).mono ?_; rintro e w' ⟨rfl, rfl⟩) | (go_at_call 50; refine (HJ.out _ (by repeat' first | with_reducible exact Below.refl _ _ | with_reducible assumption | with_reducible refine belows_drewN ?_ _ | with_reducible refine Below.drew ?_ | with_reducible refine Below.setCell ?_ ?_ _ | with_reducible refine Below.alloc ?_ ?_ _ | omega | (simp; done) | (simp; omega))).mono ?_; rintro e w' ⟨rfl, rfl⟩) | (at_builtin; refine wpList_append_own _ rfl (.tmp 52) (.tmp 54) 49 rfl (w.heap.size + 1) 3 i0 _ 1 8 Tryd.underlying49 hi hz0 hz1 hz2 rfl (by decide) _ _ _ rfl ((hown.alloc _).alloc _) ⟨wr.heap.size + 1, 0, none⟩ 1 1 [.int .i64 (k : Int)] rfl rfl (by have := Kit.news_one (wr.alloc (Obj.cells #[Value.int IntKind.i64 yp, Value.int IntKind.i64 yop, Value.int IntKind.i64 ya, Value.int IntKind.i64 yb] 35)) (.int .i64 (k : Int)) 3; simpa using this) (Kit.ones_one rfl) (by have := filter_le f k; unfold maxLen; omega) (by have := filter_le f k; omega) (by simp only [World.size_alloc]; omega) ?_; intro v' w1 hown' hgrow _)); have hne : ∀ g, w.heap.size = g → some g ≠ u6.ownBlock := (fun g hg e => by (have := Kit.own_base hown g e.symm; omega)); have hsz1 := hgrow.size; have hw1 : ∀ j, w1.cell? ⟨w.heap.size, j, none⟩ = wr.cell? ⟨w.heap.size, j, none⟩ := (fun j => by (rw [World.cell?_of_block (hgrow.block w.heap.size (by simp only [World.size_alloc]; omega) (hne _ rfl)), World.cell?_alloc_past _ _ _ (by simp only [World.size_alloc]; omega), World.cell?_alloc_past _ _ _ hsz])); have hbw : Below w.heap.size w w1 := (Kit.below_grown (by repeat' first | with_reducible exact Below.refl _ _ | with_reducible assumption | with_reducible refine belows_drewN ?_ _ | with_reducible refine Below.drew ?_ | with_reducible refine Below.setCell ?_ ?_ _ | with_reducible refine Below.alloc ?_ ?_ _ | omega | (simp; done) | (simp; omega)) hgrow (by simp only [World.size_alloc]; omega) (fun g hg => by have := Kit.own_base hown g hg; omega)); simp only [World.size_alloc] at hsz1; have Hw := hid hw1; have Hown := hid hown'; clear hw1 hown' hgrow; go_wp2; go_roundw; (case rel => exact ⟨k + 1, by omega, by go_num, by rw [filter_yes HK.out]; exact ownN_snoc Hown.out, by rw [Hw.out]; exact hx1, by rw [Hw.out]; exact hx2, by omega, hbw⟩); (case measure => simp [intOf]; omega))
        · cases en
          · (have hfk : f k = true := Hf.out; have HK := hid hfk; clear hfk; go_wp2_with (first | (go_at_call 19; refine (HE.out _).mono ?_; rintro e w' ⟨rfl, rfl⟩) | (go_at_call 50; refine (HJ.out _ (by repeat' first | with_reducible exact Below.refl _ _ | with_reducible assumption | with_reducible refine belows_drewN ?_ _ | with_reducible refine Below.drew ?_ | with_reducible refine Below.setCell ?_ ?_ _ | with_reducible refine Below.alloc ?_ ?_ _ | omega | (simp; done) | (simp; omega))).mono ?_; rintro e w' ⟨rfl, rfl⟩) | (at_builtin; refine wpList_append_own _ rfl (.tmp 52) (.tmp 54) 49 rfl (w.heap.size + 1) 3 i0 _ 1 8 Tryd.underlying49 hi hz0 hz1 hz2 rfl (by decide) _ _ _ rfl ((hown.alloc _).alloc _) ⟨wr.heap.size + 1, 0, none⟩ 1 1 [.int .i64 (k : Int)] rfl rfl (by have := Kit.news_one (wr.alloc (Obj.cells #[Value.int IntKind.i64 yp, Value.int IntKind.i64 yop, Value.int IntKind.i64 ya, Value.int IntKind.i64 yb] 35)) (.int .i64 (k : Int)) 3; simpa using this) (Kit.ones_one rfl) (by have := filter_le f k; unfold maxLen; omega) (by have := filter_le f k; omega) (by simp only [World.size_alloc]; omega) ?_; intro v' w1 hown' hgrow _)); have hne : ∀ g, w.heap.size = g → some g ≠ u6.ownBlock := (fun g hg e => by (have := Kit.own_base hown g e.symm; omega)); have hsz1 := hgrow.size; have hw1 : ∀ j, w1.cell? ⟨w.heap.size, j, none⟩ = wr.cell? ⟨w.heap.size, j, none⟩ := (fun j => by (rw [World.cell?_of_block (hgrow.block w.heap.size (by simp only [World.size_alloc]; omega) (hne _ rfl)), World.cell?_alloc_past _ _ _ (by simp only [World.size_alloc]; omega), World.cell?_alloc_past _ _ _ hsz])); have hbw : Below w.heap.size w w1 := (Kit.below_grown (by repeat' first | with_reducible exact Below.refl _ _ | with_reducible assumption | with_reducible refine belows_drewN ?_ _ | with_reducible refine Below.drew ?_ | with_reducible refine Below.setCell ?_ ?_ _ | with_reducible refine Below.alloc ?_ ?_ _ | omega | (simp; done) | (simp; omega)) hgrow (by simp only [World.size_alloc]; omega) (fun g hg => by have := Kit.own_base hown g hg; omega)); simp only [World.size_alloc] at hsz1; have Hw := hid hw1; have Hown := hid hown'; clear hw1 hown' hgrow; go_wp2; go_roundw; (case rel => exact ⟨k + 1, by omega, by go_num, by rw [filter_yes HK.out]; exact ownN_snoc Hown.out, by rw [Hw.out]; exact hx1, by rw [Hw.out]; exact hx2, by omega, hbw⟩); (case measure => simp [intOf]; omega))
          · cases J
            · (have hfk : f k = false := Hf.out; have HK := hid hfk; clear hfk; go_wp2_with (first | (go_at_call 19; refine (HE.out _).mono ?_; rintro e w' ⟨rfl, rfl⟩) | (go_at_call 50; refine (HJ.out _ (by repeat' first | with_reducible exact Below.refl _ _ | with_reducible assumption | with_reducible refine belows_drewN ?_ _ | with_reducible refine Below.drew ?_ | with_reducible refine Below.setCell ?_ ?_ _ | with_reducible refine Below.alloc ?_ ?_ _ | omega | (simp; done) | (simp; omega))).mono ?_; rintro e w' ⟨rfl, rfl⟩) | (at_builtin; refine wpList_append_own _ rfl (.tmp 52) (.tmp 54) 49 rfl (w.heap.size + 1) 3 i0 _ 1 8 Tryd.underlying49 hi hz0 hz1 hz2 rfl (by decide) _ _ _ rfl ((hown.alloc _).alloc _) ⟨wr.heap.size + 1, 0, none⟩ 1 1 [.int .i64 (k : Int)] rfl rfl (by have := Kit.news_one (wr.alloc (Obj.cells #[Value.int IntKind.i64 yp, Value.int IntKind.i64 yop, Value.int IntKind.i64 ya, Value.int IntKind.i64 yb] 35)) (.int .i64 (k : Int)) 3; simpa using this) (Kit.ones_one rfl) (by have := filter_le f k; unfold maxLen; omega) (by have := filter_le f k; omega) (by simp only [World.size_alloc]; omega) ?_; intro v' w1 hown' hgrow _)); go_roundw; (case rel => exact ⟨k + 1, by omega, by go_num, by rw [filter_no HK.out]; exact hown.alloc _, by rw [World.cell?_alloc_past _ _ _ hsz]; exact hx1, by rw [World.cell?_alloc_past _ _ _ hsz]; exact hx2, by simp; omega, (by repeat' first | with_reducible exact Below.refl _ _ | with_reducible assumption | with_reducible refine belows_drewN ?_ _ | with_reducible refine Below.drew ?_ | with_reducible refine Below.setCell ?_ ?_ _ | with_reducible refine Below.alloc ?_ ?_ _ | omega | (simp; done) | (simp; omega))⟩); (case measure => simp [intOf]; omega))
            · cases b4
              · (have hfk : f k = false := Hf.out; have HK := hid hfk; clear hfk; go_wp2_with (first | (go_at_call 19; refine (HE.out _).mono ?_; rintro e w' ⟨rfl, rfl⟩) | (go_at_call 50; refine (HJ.out _ (by repeat' first | with_reducible exact Below.refl _ _ | with_reducible assumption | with_reducible refine belows_drewN ?_ _ | with_reducible refine Below.drew ?_ | with_reducible refine Below.setCell ?_ ?_ _ | with_reducible refine Below.alloc ?_ ?_ _ | omega | (simp; done) | (simp; omega))).mono ?_; rintro e w' ⟨rfl, rfl⟩) | (at_builtin; refine wpList_append_own _ rfl (.tmp 52) (.tmp 54) 49 rfl (w.heap.size + 1) 3 i0 _ 1 8 Tryd.underlying49 hi hz0 hz1 hz2 rfl (by decide) _ _ _ rfl ((hown.alloc _).alloc _) ⟨wr.heap.size + 1, 0, none⟩ 1 1 [.int .i64 (k : Int)] rfl rfl (by have := Kit.news_one (wr.alloc (Obj.cells #[Value.int IntKind.i64 yp, Value.int IntKind.i64 yop, Value.int IntKind.i64 ya, Value.int IntKind.i64 yb] 35)) (.int .i64 (k : Int)) 3; simpa using this) (Kit.ones_one rfl) (by have := filter_le f k; unfold maxLen; omega) (by have := filter_le f k; omega) (by simp only [World.size_alloc]; omega) ?_; intro v' w1 hown' hgrow _)); go_roundw; (case rel => exact ⟨k + 1, by omega, by go_num, by rw [filter_no HK.out]; exact hown.alloc _, by rw [World.cell?_alloc_past _ _ _ hsz]; exact hx1, by rw [World.cell?_alloc_past _ _ _ hsz]; exact hx2, by simp; omega, (by repeat' first | with_reducible exact Below.refl _ _ | with_reducible assumption | with_reducible refine belows_drewN ?_ _ | with_reducible refine Below.drew ?_ | with_reducible refine Below.setCell ?_ ?_ _ | with_reducible refine Below.alloc ?_ ?_ _ | omega | (simp; done) | (simp; omega))⟩); (case measure => simp [intOf]; omega))
              · (have hfk : f k = true := Hf.out; have HK := hid hfk; clear hfk; go_wp2_with (first | (go_at_call 19; refine (HE.out _).mono ?_; rintro e w' ⟨rfl, rfl⟩) | (go_at_call 50; refine (HJ.out _ (by repeat' first | with_reducible exact Below.refl _ _ | with_reducible assumption | with_reducible refine belows_drewN ?_ _ | with_reducible refine Below.drew ?_ | with_reducible refine Below.setCell ?_ ?_ _ | with_reducible refine Below.alloc ?_ ?_ _ | omega | (simp; done) | (simp; omega))).mono ?_; rintro e w' ⟨rfl, rfl⟩) | (at_builtin; refine wpList_append_own _ rfl (.tmp 52) (.tmp 54) 49 rfl (w.heap.size + 1) 3 i0 _ 1 8 Tryd.underlying49 hi hz0 hz1 hz2 rfl (by decide) _ _ _ rfl ((hown.alloc _).alloc _) ⟨wr.heap.size + 1, 0, none⟩ 1 1 [.int .i64 (k : Int)] rfl rfl (by have := Kit.news_one (wr.alloc (Obj.cells #[Value.int IntKind.i64 yp, Value.int IntKind.i64 yop, Value.int IntKind.i64 ya, Value.int IntKind.i64 yb] 35)) (.int .i64 (k : Int)) 3; simpa using this) (Kit.ones_one rfl) (by have := filter_le f k; unfold maxLen; omega) (by have := filter_le f k; omega) (by simp only [World.size_alloc]; omega) ?_; intro v' w1 hown' hgrow _)); have hne : ∀ g, w.heap.size = g → some g ≠ u6.ownBlock := (fun g hg e => by (have := Kit.own_base hown g e.symm; omega)); have hsz1 := hgrow.size; have hw1 : ∀ j, w1.cell? ⟨w.heap.size, j, none⟩ = wr.cell? ⟨w.heap.size, j, none⟩ := (fun j => by (rw [World.cell?_of_block (hgrow.block w.heap.size (by simp only [World.size_alloc]; omega) (hne _ rfl)), World.cell?_alloc_past _ _ _ (by simp only [World.size_alloc]; omega), World.cell?_alloc_past _ _ _ hsz])); have hbw : Below w.heap.size w w1 := (Kit.below_grown (by repeat' first | with_reducible exact Below.refl _ _ | with_reducible assumption | with_reducible refine belows_drewN ?_ _ | with_reducible refine Below.drew ?_ | with_reducible refine Below.setCell ?_ ?_ _ | with_reducible refine Below.alloc ?_ ?_ _ | omega | (simp; done) | (simp; omega)) hgrow (by simp only [World.size_alloc]; omega) (fun g hg => by have := Kit.own_base hown g hg; omega)); simp only [World.size_alloc] at hsz1; have Hw := hid hw1; have Hown := hid hown'; clear hw1 hown' hgrow; go_wp2; go_roundw; (case rel => exact ⟨k + 1, by omega, by go_num, by rw [filter_yes HK.out]; exact ownN_snoc Hown.out, by rw [Hw.out]; exact hx1, by rw [Hw.out]; exact hx2, by omega, hbw⟩); (case measure => simp [intOf]; omega))
      · obtain rfl : k = l.length := by omega
        go_wp2
        go_ret
        exact ⟨_, rfl, owns_mono hown (by omega), (by repeat' first | with_reducible exact Below.refl _ _ | with_reducible assumption | with_reducible refine belows_drewN ?_ _ | with_reducible refine Below.drew ?_ | with_reducible refine Below.setCell ?_ ?_ _ | with_reducible refine Below.alloc ?_ ?_ _ | omega | (simp; done) | (simp; omega))⟩
end Go.Proofs.YtihklojiionanaaDoor
