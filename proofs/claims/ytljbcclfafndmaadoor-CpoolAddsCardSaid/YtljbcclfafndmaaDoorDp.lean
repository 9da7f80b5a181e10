/- Contract of the law's loop over All. -/
import Derived.Test.YtljbcclfafndmaaDoorDl
namespace Go.Proofs.YtljbcclfafndmaaDoor
open Go.RowKit

attribute [local go_sem] Oper.semAt_some

theorem KeepsOthers.drewN (W : World) (n : Nat) : KeepsOthers W (W.drewN n) := ⟨Nat.le_refl _, fun _ _ h _ => h⟩
theorem Kp.drewN (lo hi : Nat) (W : World) (n : Nat) : Kp lo hi W (W.drewN n) := ⟨Nat.le_refl _, fun _ _ _ => rfl⟩
theorem Kp.set {lo hi b : Nat} {A B : World} (h : Kp lo hi A B) (hp : b < lo) (hh : hi ≤ B.heap.size) (u : Value) : Kp lo hi A (B.setCell ⟨b, 0, none⟩ u) :=
  h.grown (grownBy_setCell' B ⟨b, 0, none⟩ u) hh (fun k e => by cases e; exact .inl hp)
/-- The index of the last entry that was told. -/
def lastI {l : List Cp.C} (pre : List (Tx l)) : Int := match pre.getLast? with
  | none => -1
  | some x => (x.1.1 : Int)
theorem lastI_snoc {l : List Cp.C} (pre : List (Tx l)) (x : Tx l) : lastI (pre ++ [x]) = (x.1.1 : Int) := by unfold lastI; simp
theorem lastI_told {l : List Cp.C} {k : Nat} {pre : List (Tx l)} {x : Tx l} (h : told l k = pre ++ [x]) : lastI pre < (x.1.1 : Int) := by
  obtain ⟨hp, -⟩ := told_last h
  unfold lastI
  cases hl : pre.getLast? with
  | none => dsimp only; omega
  | some y =>
    have hy : y ∈ told l x.1.1 := by rw [← hp]; exact List.mem_of_getLast? hl
    have := told_lt hy
    dsimp only
    omega
/-- Where the loop stands. -/
def TeJ {l : List Cp.C} (v : Value) (stop : Int) (hi : Nat) (w : World) (pre : List (Tx l)) (W : World) : Prop :=
  Boxed W w.heap.size 23 v ∧ Boxed W (w.heap.size + 1) 3 (.int .i64 stop) ∧ Boxed W (w.heap.size + 1 + 1) 4 (.bool false) ∧ Boxed W (w.heap.size + 1 + 1 + 1) 3 (.int .i64 (pre.length : Nat)) ∧ Boxed W (w.heap.size + 1 + 1 + 1 + 1) 3 (.int .i64 (lastI pre)) ∧ Below w.heap.size w W ∧ hi ≤ W.heap.size
theorem TeJ.own {l : List Cp.C} {v : Value} {stop : Int} {hi n : Nat} {w : World} (hn : w.heap.size ≤ n) : OwnFrom n (TeJ (l := l) v stop hi w) := by
  rintro pre A B row ⟨h0, h1, h2, h3, h4, h5, h6⟩ hg hr
  exact ⟨boxed_own _ _ (fun _ : Unit => v) () A B row h0 hg (fun r e => (hr r e).2), boxed_own _ _ (fun _ : Unit => .int .i64 stop) () A B row h1 hg (fun r e => (hr r e).2), boxed_own _ _ (fun _ : Unit => .bool false) () A B row h2 hg (fun r e => (hr r e).2), boxed_own _ _ (fun _ : Unit => .int .i64 (pre.length : Nat)) () A B row h3 hg (fun r e => (hr r e).2), boxed_own _ _ (fun _ : Unit => .int .i64 (lastI pre)) () A B row h4 hg (fun r e => (hr r e).2), h5.grown hg h5.size (fun k e => by have := (hr k e).1; omega), Nat.le_trans h6 hg.size⟩
/-- Where the loop stands when it stops. -/
def TeX {l : List Cp.C} (w : World) (pre : List (Tx l)) (W : World) : Prop :=
  Hid (∃ b : Bool, Boxed W (w.heap.size + 1 + 1) 4 (.bool b) ∧ (b = false → ∃ p x, pre = p ++ [x] ∧ (x.1.1 : Int) ≤ lastI p)) ∧ Below w.heap.size w W
theorem TeX.own {l : List Cp.C} {n : Nat} {w : World} (hn : w.heap.size ≤ n) : OwnFrom n (TeX (l := l) w) := by
  rintro pre A B row ⟨⟨b, h1, h2⟩, h7⟩ hg hr
  exact ⟨⟨b, boxed_own _ _ (fun _ : Unit => .bool b) () A B row h1 hg (fun r e => (hr r e).2), h2⟩, h7.grown hg h7.size (fun k e => by have := (hr k e).1; omega)⟩
theorem TeX.is {l : List Cp.C} {w W : World} {k : Nat} (h : TeX w (told l k) W) : Boxed W (w.heap.size + 1 + 1) 4 (.bool true) ∧ Below w.heap.size w W := by
  obtain ⟨⟨b, h1, h2⟩, h7⟩ := h
  refine ⟨?_, h7⟩
  cases b with
  | true => exact h1
  | false =>
    obtain ⟨p, x, h3, h4⟩ := h2 rfl
    have := lastI_told h3
    omega
set_option maxRecDepth 100000 in
set_option maxHeartbeats 4000000 in
theorem tells_any (l : List Cp.C) (v : Value) (stop : Int) (w : World) (hv : Kit.IsS 5 w v l.length (l.flatMap cL)) (hn : l.length * 48 ≤ 140737488355328) :
    Calls Tryd.prog 31 #[v, .int .i64 stop] w fun e w' => e = .returned (.bool true) ∧ Below w.heap.size w w' := by
  have HV := hid (fun W (h : Below w.heap.size w W) => hv.below h (Nat.le_refl _))
  obtain ⟨a, cap, hv2⟩ := hv.len
  subst hv2
  have hlen := hv.2.1
  clear hv
  refine (callsIn_wide (n := 5)).1 ?_
  refine callsIn_of_wp_marks Tryd.func31 rfl trivial ?_ rfl
  simp only [Tryd.ntmps31, List.size_toArray, List.length_cons, List.length_nil, Nat.reduceAdd, Nat.reduceSub, Array.replicate_succ, Array.replicate_zero, List.push_toArray, List.append_toArray, List.nil_append, List.cons_append]
  gi_wp2_with (refine ⟨trivial, ?_⟩; gi_at_call 39; refine (callsIn_wide.2 (all_any l _ _ (HV.out _ (by repeat' first | with_reducible exact Below.refl _ _ | with_reducible assumption | with_reducible refine belows_drewN ?_ _ | with_reducible refine Below.drew ?_ | with_reducible refine Below.setCell ?_ ?_ _ | with_reducible refine Below.alloc ?_ ?_ _ | omega | (simp; done) | (simp; omega))) hn)).mono ?_; rintro e w3 ⟨v3, rfl, hX, hb3, hz3⟩)
  have b0 := ((((Boxed.new w 23 (.slice a l.length cap)).alloc (.cells #[.int .i64 stop] 3)).alloc (.cells #[.bool false] 4)).alloc (.cells #[.int .i64 0] 3)).alloc (.cells #[.int .i64 (-1)] 3)
  have b1 := (((Boxed.new (w.alloc (.cells #[.slice a l.length cap] 23)) 3 (.int .i64 stop)).alloc (.cells #[.bool false] 4)).alloc (.cells #[.int .i64 0] 3)).alloc (.cells #[.int .i64 (-1)] 3)
  have b2 := ((Boxed.new ((w.alloc (.cells #[.slice a l.length cap] 23)).alloc (.cells #[.int .i64 stop] 3)) 4 (.bool false)).alloc (.cells #[.int .i64 0] 3)).alloc (.cells #[.int .i64 (-1)] 3)
  have b3 := (Boxed.new (((w.alloc (.cells #[.slice a l.length cap] 23)).alloc (.cells #[.int .i64 stop] 3)).alloc (.cells #[.bool false] 4)) 3 (.int .i64 0)).alloc (.cells #[.int .i64 (-1)] 3)
  have b4 := Boxed.new ((((w.alloc (.cells #[.slice a l.length cap] 23)).alloc (.cells #[.int .i64 stop] 3)).alloc (.cells #[.bool false] 4)).alloc (.cells #[.int .i64 0] 3)) 3 (.int .i64 (-1))
  simp only [World.size_alloc] at b0 b1 b2 b3 b4
  have hB0 : Below w.heap.size w (((((w.alloc (.cells #[.slice a l.length cap] 23)).alloc (.cells #[.int .i64 stop] 3)).alloc (.cells #[.bool false] 4)).alloc (.cells #[.int .i64 0] 3)).alloc (.cells #[.int .i64 (-1)] 3)) := (((((Below.refl _ w).alloc (Nat.le_refl _) (.cells #[.slice a l.length cap] 23)).alloc (by simp only [World.size_alloc]; omega) (.cells #[.int .i64 stop] 3)).alloc (by simp only [World.size_alloc]; omega) (.cells #[.bool false] 4)).alloc (by simp only [World.size_alloc]; omega) (.cells #[.int .i64 0] 3)).alloc (by simp only [World.size_alloc]; omega) (.cells #[.int .i64 (-1)] 3)
  have hsz : (((((w.alloc (.cells #[.slice a l.length cap] 23)).alloc (.cells #[.int .i64 stop] 3)).alloc (.cells #[.bool false] 4)).alloc (.cells #[.int .i64 0] 3)).alloc (.cells #[.int .i64 (-1)] 3)).heap.size = w.heap.size + 5 := by simp only [World.size_alloc]
  obtain ⟨W0, hW0⟩ : ∃ W0, (((((w.alloc (.cells #[.slice a l.length cap] 23)).alloc (.cells #[.int .i64 stop] 3)).alloc (.cells #[.bool false] 4)).alloc (.cells #[.int .i64 0] 3)).alloc (.cells #[.int .i64 (-1)] 3)) = W0 := ⟨_, rfl⟩
  rw [hW0] at b0 b1 b2 b3 b4 hB0 hsz hb3 hX hz3
  clear hW0
  have j0 := (hb3.block w.heap.size (by omega)).trans b0
  have j1 := (hb3.block (w.heap.size + 1) (by omega)).trans b1
  have j2 := (hb3.block (w.heap.size + 1 + 1) (by omega)).trans b2
  have j3 := (hb3.block (w.heap.size + 1 + 1 + 1) (by omega)).trans b3
  have j4 := (hb3.block (w.heap.size + 1 + 1 + 1 + 1) (by omega)).trans b4
  have hB3 : Below w.heap.size w w3 := belows hB0 hb3 (by omega)
  rw [hsz] at hX hz3
  have hkX : Hid (∀ X, Kp (w.heap.size + 5) w3.heap.size w3 X → Kit.IsS 5 X v3 l.length (l.flatMap cL) ∧ X.cell? ⟨w.heap.size + 5, 0, none⟩ = some v3) := hX
  have hB3z := hB3.size
  clear hX hb3 b0 b1 b2 b3 b4 hB0 hsz
  refine wpIn_rangeFunc_ownH rfl (by omega) (gf := 54) (lb := #[.pointer (some ⟨w.heap.size + 5, 0, none⟩)]) rfl trivial (enters_of Tryd.func54 (by kernel_rfl) rfl)
    (all1_stops l v3 (w.heap.size + 5) (w.heap.size + 5) (5 - 1) w3 (by omega) hkX.out) (fun h k => Kp.trans h k) (Kp.putObj (Nat.le_refl _)) (Below.refl _ _) (fun _ => rfl)
    (TeJ (.slice a l.length cap) stop w3.heap.size w) (fun c' pre W => c' = .ret ∧ TeX w pre W) (TeJ.own hB3.size) (fun c' pre A B row h hg hr => ⟨h.1, TeX.own hB3.size pre A B row h.2 hg hr⟩)
    ⟨j0, j1, j2, j3, j4, hB3, Nat.le_refl _⟩
    (fun x a' W => ∃ Bx, w3.heap.size ≤ Bx ∧ BX W Bx (cC x.1.2) 46 ∧ a' = { tmps := #[.slice a l.length cap, .int .i64 stop, .pointer (some ⟨w.heap.size, 0, none⟩), .pointer (some ⟨w.heap.size + 1, 0, none⟩), .pointer (some ⟨w.heap.size + 1 + 1, 0, none⟩), .pointer (some ⟨w.heap.size + 1 + 1 + 1, 0, none⟩), .pointer (some ⟨w.heap.size + 1 + 1 + 1 + 1, 0, none⟩), .int .i64 (x.1.1 : Int), .pointer (some ⟨Bx, 0, none⟩), undef, undef, undef, .slice a l.length cap, .func (.func 54) #[] #[.pointer (some ⟨w.heap.size + 5, 0, none⟩)], .int .i64 (x.1.1 : Int), .agg (cC x.1.2), undef, undef, undef, undef, undef, undef, undef, undef, undef, undef, undef, undef, undef, undef, undef, undef, undef, undef, undef, undef, undef, undef, undef, undef, undef, undef, undef, undef, undef, undef, undef, undef, undef, undef, undef, undef, undef, undef, undef, undef, undef, undef, undef], defers := [] })
    (fun x a' => Own.from (fun s A B row hs hg hr => by
      obtain ⟨Bx, h1, h2, h3⟩ := hs
      exact ⟨Bx, h1, bx_own _ _ _ s A B row h2 hg hr, h3⟩) _) ?assign ?body ?done ?stop
  case assign =>
    rintro D pre ⟨⟨k, xt, xs, xn, xa, xb⟩, hx⟩ W K hI hK
    unfold entE cC
    gi_wp2
    exact hK _ _ ((KeepsOthers.alloc _ _).from _) ((Kp.refl _ _ W).below ((Below.refl W.heap.size W).alloc (Nat.le_refl _) _) (by obtain ⟨-, -, -, -, -, -, h⟩ := hI; exact h)) ((TeJ.own hB3.size).alloc _ hI) ⟨W.heap.size, (by obtain ⟨-, -, -, -, -, -, h⟩ := hI; exact h), BX.new W _ _, rfl⟩
  case body =>
    rintro D pre ⟨⟨k, xt, xs, xn, xa, xb⟩, hx⟩ a' W hl ⟨r, hr⟩ ⟨i0, i1, i2, i3, i4, hB, hh⟩ ⟨Bx, hBx, bX, rfl⟩ hlt
    obtain ⟨La, hLa⟩ : ∃ La, La = lastI pre := ⟨_, rfl⟩
    have HLa := hid hLa
    rw [← hLa] at i4
    have x0 := bX.cell 0
    have x1 := bX.cell 1
    have x2 := bX.cell 2
    have x3 := bX.cell 3
    have x4 := bX.cell 4
    have bXs := bX.sz
    have c0 := i0.cell
    have c1 := i1.cell
    have c2 := i2.cell
    have c3 := i3.cell
    have c4 := i4.cell
    have f2 := i2.frozen
    have f3 := i3.frozen
    have f4 := i4.frozen
    obtain ⟨b, o, cap', hv, hbb, d0, d1, d2, d3, d4⟩ := c_at (HV.out W hB) hx.1
    obtain ⟨rfl, -, rfl⟩ := Value.slice.inj hv
    have hkl : k < l.length := (List.getElem?_eq_some_iff.1 hx.1).1
    have hki : (k : Int) < l.length := by omega
    have hge : decide (l.length ≤ k) = false := by simp; omega
    have hxt : (xt == 0) = false := by simpa using hx.2
    unfold cC at x0 x1 x2 x3 x4 ⊢
    simp at x0 x1 x2 x3 x4
    dsimp only at d0 d1 d2 d3 d4 ⊢
    have hpl : IntKind.i64.wrap ((pre.length : Int) + 1) = (pre.length : Int) + 1 := IntWalk.i64_in _ (by omega)
    clear hLa hv hr bX hlen
    by_cases hle : (k : Int) ≤ La
    · have hd : decide ((k : Int) ≤ La) = true := by simpa using hle
      have HBad := hid (show (((⟨(k, ⟨xt, xs, xn, xa, xb⟩), hx⟩ : Tx l).1.1 : Nat) : Int) ≤ lastI pre by rw [← HLa.out]; exact hle)
      gi_wp2
      (refine Kit.round_quiet_lit (by kernel_rfl) (by kernel_rfl) (by kernel_rfl) ?_; (repeat (gi_big_quiet_step (fail))); refine wpQuietIn_nil ?_; intro _ hw'; obtain ⟨nq, hw''⟩ := hw'; subst hw'')
      gi_wp2
      have e2 : Boxed (W.drewN nq) (w.heap.size + 1 + 1) 4 (.bool false) := i2
      exact ⟨((KeepsOthers.drewN W nq).trans (KeepsOthers.setCell _ _ _)).from _, rfl, ⟨false, e2.set _, fun _ => ⟨pre, _, rfl, HBad.out⟩⟩, (by repeat' first | with_reducible exact hB | with_reducible exact Below.refl _ _ | with_reducible refine belows_drewN ?_ _ | with_reducible refine Below.drew ?_ | with_reducible refine Below.setCell ?_ ?_ _ | omega | (simp; omega))⟩
    · have hd : decide ((k : Int) ≤ La) = false := by simpa using hle
      gi_wp2
      (refine Kit.round_quiet_lit (by kernel_rfl) (by kernel_rfl) (by kernel_rfl) ?_; (repeat (gi_big_quiet_step (fail))); refine wpQuietIn_nil ?_; intro _ hw'; obtain ⟨nq, hw''⟩ := hw'; subst hw'')
      gi_wp2
      all_goals
        have e0 : Boxed (W.drewN nq) w.heap.size 23 (.slice (some ⟨b, o, none⟩) l.length cap) := i0
        have e1 : Boxed (W.drewN nq) (w.heap.size + 1) 3 (.int .i64 stop) := i1
        have e2 : Boxed (W.drewN nq) (w.heap.size + 1 + 1) 4 (.bool false) := i2
        have e3 : Boxed (W.drewN nq) (w.heap.size + 1 + 1 + 1) 3 (.int .i64 (pre.length : Nat)) := i3
        have e4 : Boxed (W.drewN nq) (w.heap.size + 1 + 1 + 1 + 1) 3 (.int .i64 La) := i4
      · exact ⟨((((KeepsOthers.drewN W nq).trans (KeepsOthers.setCell _ _ _)).trans (KeepsOthers.setCell _ _ _)).trans (KeepsOthers.setCell _ _ _)).from _, rfl, ⟨true, ((e2.other (by omega) _).other (by omega) _).set _, fun h => by cases h⟩, (by repeat' first | with_reducible exact hB | with_reducible exact Below.refl _ _ | with_reducible refine belows_drewN ?_ _ | with_reducible refine Below.drew ?_ | with_reducible refine Below.setCell ?_ ?_ _ | omega | (simp; omega))⟩
      · have el : (.int .i64 ((pre.length : Int) + 1) : Value) = .int .i64 (((pre ++ [(⟨(k, ⟨xt, xs, xn, xa, xb⟩), hx⟩ : Tx l)]).length : Nat) : Int) := by simp
        exact ⟨(((KeepsOthers.drewN W nq).trans (KeepsOthers.setCell _ _ _)).trans (KeepsOthers.setCell _ _ _)).from _, ((Kp.drewN (w.heap.size + 5) w3.heap.size W nq).set (by omega) (by exact hh) _).set (by omega) (by rw [show ((W.drewN nq).setCell ⟨w.heap.size + 1 + 1 + 1 + 1, 0, none⟩ (Value.int IntKind.i64 k)).heap.size = W.heap.size by simp]; exact hh) _,
          (e0.other (by omega) _).other (by omega) _, (e1.other (by omega) _).other (by omega) _, (e2.other (by omega) _).other (by omega) _, by rw [← el]; exact (e3.other (by omega) _).set _, by rw [lastI_snoc]; exact (e4.set _).other (by omega) _, (by repeat' first | with_reducible exact hB | with_reducible exact Below.refl _ _ | with_reducible refine belows_drewN ?_ _ | with_reducible refine Below.drew ?_ | with_reducible refine Below.setCell ?_ ?_ _ | omega | (simp; omega)), by simp only [World.size_setCell]; exact hh⟩
  case done =>
    rintro D ys W hD rfl ⟨i0, i1, i2, i3, i4, hB, hh⟩ hK
    have c0 := i0.cell
    have c2 := i2.cell
    have c3 := i3.cell
    have f2 := i2.frozen
    have HVW := hid (fun X (h : Below W.heap.size W X) => HV.out X (belows hB h hB.size))
    have htl := told_len l l.length
    gi_wp2
    gi_loopw [9, 46] (fun q i wr => ∃ k : Nat, k ≤ l.length ∧ i = .int .i64 k ∧ q = .int .i64 ((told l k).length : Nat) ∧ Below W.heap.size W wr) (fun _ i _ => l.length - (intOf i).toNat)
    case atStart => exact ⟨0, by omega, rfl, rfl, Below.refl _ _⟩
    case round =>
      obtain ⟨k, hk, rfl, rfl, hbl⟩ := hrel
      have hbz := hbl.size
      by_cases hlt : k < l.length
      · obtain ⟨y, hy⟩ : ∃ y, l[k]? = some y := ⟨l[k], List.getElem?_eq_getElem hlt⟩
        obtain ⟨b, o, cap', hv', hb, d0, d1, d2, d3, d4⟩ := c_at (HVW.out wr hbl) hy
        obtain ⟨rfl, -, rfl⟩ := Value.slice.inj hv'
        have hki : (k : Int) < l.length := by omega
        have htk := told_len l k
        by_cases hc0 : y.t = 0
        · have HT := hid (told_no hy hc0)
          have hd : (y.t != 0) = false := by simpa using hc0
          clear hy hv' hc0
          gi_wp2
          go_roundw
          case rel => exact ⟨k + 1, by omega, by go_num, by rw [HT.out], (by repeat' first | with_reducible exact Below.refl _ _ | with_reducible assumption | with_reducible refine belows_drewN ?_ _ | with_reducible refine Below.drew ?_ | with_reducible refine Below.setCell ?_ ?_ _ | with_reducible refine Below.alloc ?_ ?_ _ | omega | (simp; done) | (simp; omega))⟩
          case measure => simp [intOf]; omega
        · have HT := hid (told_yes hy hc0)
          have hd : (y.t != 0) = true := by simpa using hc0
          have hpl : IntKind.i64.wrap (((told l k).length : Int) + 1) = ((told l k).length : Int) + 1 := IntWalk.i64_in _ (by omega)
          clear hv'
          gi_wp2
          go_roundw
          case rel => exact ⟨k + 1, by omega, by go_num, by rw [HT.out, List.length_append]; rfl, (by repeat' first | with_reducible exact Below.refl _ _ | with_reducible assumption | with_reducible refine belows_drewN ?_ _ | with_reducible refine Below.drew ?_ | with_reducible refine Below.setCell ?_ ?_ _ | with_reducible refine Below.alloc ?_ ?_ _ | omega | (simp; done) | (simp; omega))⟩
          case measure => simp [intOf]; omega
      · obtain rfl : k = l.length := by omega
        have m2 := (hbl.block (w.heap.size + 1 + 1) (Array.getElem?_eq_some_iff.1 i2).1).trans i2
        have m3 := (hbl.block (w.heap.size + 1 + 1 + 1) (Array.getElem?_eq_some_iff.1 i3).1).trans i3
        have hK2 := (hbl.block D (Array.getElem?_eq_some_iff.1 hK).1).trans hK
        have n2 := Boxed.cell m2
        have n3 := Boxed.cell m3
        have g2 := Boxed.frozen m2
        gi_wp2
        have hK' := (KeepsOthers.setCell wr ⟨w.heap.size + 1 + 1, 0, none⟩ (.bool true)).same D _ hK2 rfl
        refine ⟨by simp, .inl ⟨_, _, rfl, run_takeDeferred hK', ?_⟩⟩
        have hc5 := cell_kept (World.cell?_setCell_same' wr ⟨w.heap.size + 1 + 1, 0, none⟩ (.bool true) (by rw [n2]; rfl)) (grownBy_putObj' _ D (.deferred none)) (fun r e => by cases e; exact ⟨_, hK', rfl⟩)
        refine ⟨.bool true, ?_, rfl, ((belows hB hbl hB.size).setCell (p := ⟨w.heap.size + 1 + 1, 0, none⟩) (by show w.heap.size ≤ w.heap.size + 1 + 1; omega) _).trans (belowK_b (w := w) (Nat.le_refl _) _ D _ _ (by omega) hK' rfl rfl)⟩
        simp [results, Tryd.f31, go_sem, hc5]
  case stop =>
    rintro D c' pre W hD ⟨k, hk, rfl⟩ ⟨rfl, hX⟩ hK
    obtain ⟨i2, hB⟩ := hX.is
    clear hX
    gi_wp2
    refine ⟨by simp, .inl ⟨_, _, rfl, run_takeDeferred hK, ?_⟩⟩
    have hc2 := cell_kept i2.cell (grownBy_putObj' _ D (.deferred none)) (fun r e => by cases e; exact ⟨_, hK, rfl⟩)
    refine ⟨.bool true, ?_, rfl, hB.trans (belowK_b (w := w) (Nat.le_refl _) _ D _ _ (by omega) hK rfl rfl)⟩
    simp [results, Tryd.f31, go_sem, hc2]
end Go.Proofs.YtljbcclfafndmaaDoor
