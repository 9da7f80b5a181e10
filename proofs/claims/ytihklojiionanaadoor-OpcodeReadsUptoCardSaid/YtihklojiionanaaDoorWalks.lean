/- Contract of the law's loop over Walk. -/
import Derived.Test.YtihklojiionanaaDoorWalkF
namespace Go.Proofs.YtihklojiionanaaDoor
open Go.RowKit

attribute [local go_sem] Oper.semAt_some

/-- A block that holds an instruction. -/
def BoxI (W : World) (B : Nat) (x : Op1.Ins) : Prop := W.heap[B]? = some (.cells #[.int .i64 x.p, .int .i64 x.op, .int .i64 x.a, .int .i64 x.b] 35 (0, 0))
theorem BoxI.lt {W : World} {B : Nat} {x : Op1.Ins} (h : BoxI W B x) : B < W.heap.size := (Array.getElem?_eq_some_iff.1 h).1
theorem BoxI.cells {W : World} {B : Nat} {x : Op1.Ins} (h : BoxI W B x) : W.cell? ⟨B, 0, none⟩ = some (.int .i64 x.p) ∧ W.cell? ⟨B, 1, none⟩ = some (.int .i64 x.op) ∧ W.cell? ⟨B, 2, none⟩ = some (.int .i64 x.a) ∧ W.cell? ⟨B, 3, none⟩ = some (.int .i64 x.b) := by
  refine ⟨?_, ?_, ?_, ?_⟩ <;> simp [World.cell?, show W.heap[B]? = _ from h]
theorem BoxI.new (W : World) (x : Op1.Ins) : BoxI (W.alloc (.cells #[.int .i64 x.p, .int .i64 x.op, .int .i64 x.a, .int .i64 x.b] 35)) W.heap.size x := World.alloc_heap_new W _
theorem KeepsOthers.drewN (W : World) (n : Nat) : KeepsOthers W (W.drewN n) := ⟨Nat.le_refl _, fun _ _ h _ => h⟩

theorem pre_snoc {pre L : List Op1.Ins} (h : pre <+: L) (x : Op1.Ins) : (pre ++ [x] <+: L ↔ L[pre.length]? = some x) := by
  obtain ⟨t, rfl⟩ := h
  rw [List.prefix_append_right_inj]
  rw [List.getElem?_append_right (Nat.le_refl _), Nat.sub_self]
  cases t with
  | nil => simp
  | cons y t => simp [eq_comm]

set_option maxRecDepth 100000 in
set_option maxHeartbeats 2000000 in
theorem walks_any (bs : List UInt8) (L : List Op1.Ins) (q : Nat) (v u : Value) (Bs : Nat) (stop : Int) (w : World) (ht : Tabs w) (hb : IsB w v bs) (hBs : Bs < w.heap.size) (hc : w.cell? ⟨Bs, 0, none⟩ = some v)
    (hL : Op1.Pre bs L q) (he : Op1.errAt bs q ≠ 0) (hu : Kit.IsS 4 w u L.length (insCells L)) :
    Calls Tryd.prog 27 #[.func (.func 47) #[] #[.pointer (some ⟨Bs, 0, none⟩)], u, .int .i64 stop] w fun e w' => e = .returned (.bool true) ∧ Below w.heap.size w w' := by
  have HU := hid (fun X (h : Below w.heap.size w X) => hu.below h (Nat.le_refl _))
  obtain ⟨ua, ucap, hv⟩ := hu.len
  subst hv
  have HP := hid hL
  have HE := hid he
  clear hu hL he
  refine (callsIn_wide (n := 5)).1 ?_
  refine callsIn_of_wp_marks Tryd.func27 rfl trivial ?_ rfl
  simp only [Tryd.ntmps27, List.size_toArray, List.length_cons, List.length_nil, Nat.reduceAdd, Nat.reduceSub, Array.replicate_succ, Array.replicate_zero, List.push_toArray, List.append_toArray, List.nil_append, List.cons_append]
  gi_wp2
  have b0 := (((Boxed.new w 30 (.slice ua L.length ucap)).alloc (.cells #[.int .i64 stop] 3)).alloc (.cells #[.bool false] 4)).alloc (.cells #[.int .i64 0] 3)
  have b1 := ((Boxed.new (w.alloc (.cells #[.slice ua L.length ucap] 30)) 3 (.int .i64 stop)).alloc (.cells #[.bool false] 4)).alloc (.cells #[.int .i64 0] 3)
  have b2 := (Boxed.new ((w.alloc (.cells #[.slice ua L.length ucap] 30)).alloc (.cells #[.int .i64 stop] 3)) 4 (.bool false)).alloc (.cells #[.int .i64 0] 3)
  have b3 := Boxed.new (((w.alloc (.cells #[.slice ua L.length ucap] 30)).alloc (.cells #[.int .i64 stop] 3)).alloc (.cells #[.bool false] 4)) 3 (.int .i64 0)
  simp only [World.size_alloc] at b0 b1 b2 b3
  have hB0 : Below w.heap.size w ((((w.alloc (.cells #[.slice ua L.length ucap] 30)).alloc (.cells #[.int .i64 stop] 3)).alloc (.cells #[.bool false] 4)).alloc (.cells #[.int .i64 0] 3)) := ((((Below.refl _ w).alloc (Nat.le_refl _) _).alloc (by simp only [World.size_alloc]; omega) _).alloc (by simp only [World.size_alloc]; omega) _).alloc (by simp only [World.size_alloc]; omega) _
  have hsz : ((((w.alloc (.cells #[.slice ua L.length ucap] 30)).alloc (.cells #[.int .i64 stop] 3)).alloc (.cells #[.bool false] 4)).alloc (.cells #[.int .i64 0] 3)).heap.size = w.heap.size + 4 := by simp only [World.size_alloc]
  obtain ⟨W0, hW0⟩ : ∃ W0, (((w.alloc (.cells #[.slice ua L.length ucap] 30)).alloc (.cells #[.int .i64 stop] 3)).alloc (.cells #[.bool false] 4)).alloc (.cells #[.int .i64 0] 3) = W0 := ⟨_, rfl⟩
  rw [hW0] at b0 b1 b2 b3 hB0 hsz ⊢
  clear hW0
  refine wpIn_rangeFunc_ownH rfl (by omega) (gf := 47) (lb := #[.pointer (some ⟨Bs, 0, none⟩)]) rfl trivial (enters_of Tryd.func47 (by kernel_rfl) rfl)
    (walk1_stops bs v Bs (5 - 1) w (by omega) ht hb hBs hc) belowK_t (belowK_b (by omega)) hB0 (fun _ => rfl)
    (fun pre W => (((Boxed W (w.heap.size + 1 + 1 + 1) 3 (.int .i64 (pre.length : Nat)) ∧ Boxed W w.heap.size 30 (.slice ua L.length ucap)) ∧ (Boxed W (w.heap.size + 1) 3 (.int .i64 stop) ∧ Boxed W (w.heap.size + 1 + 1) 4 (.bool false))) ∧ Hid (pre <+: L)) ∧ Below w.heap.size w W)
    (fun c pre W => (c = .ret ∧ ∃ b, Boxed W (w.heap.size + 1 + 1) 4 (.bool b) ∧ (b = false → ¬ pre <+: L)) ∧ Below w.heap.size w W)
    (OwnFrom.and (OwnFrom.and (OwnFrom.and (OwnFrom.and (Own.from (boxed_own _ _ (fun pre : List Op1.Ins => .int .i64 (pre.length : Nat))) _) (Own.from (boxed_own _ _ _) _)) (OwnFrom.and (Own.from (boxed_own _ _ _) _) (Own.from (boxed_own _ _ _) _))) (ownFrom_pure _ (fun pre : List Op1.Ins => Hid (pre <+: L)))) (ownFrom_below (Nat.le_refl _) (by omega)))
    (fun c => OwnFrom.and (Own.from (fun s A B row hs hg hr => by obtain ⟨hc, b, hb, hn⟩ := hs; exact ⟨hc, b, boxed_own _ _ (fun _ : Unit => .bool b) () A B row hb hg hr, hn⟩) _) (ownFrom_below (Nat.le_refl _) (by omega)))
    ⟨⟨⟨⟨b3, b0⟩, b1, b2⟩, hid (List.nil_prefix)⟩, hB0⟩
    (fun x a' W => ∃ Bx, w.heap.size + 1 + 1 + 1 < Bx ∧ BoxI W Bx x ∧ a' = { tmps := #[.func (.func 47) #[] #[.pointer (some ⟨Bs, 0, none⟩)], .slice ua L.length ucap, .int .i64 stop, undef, .pointer (some ⟨w.heap.size, 0, none⟩), .pointer (some ⟨w.heap.size + 1, 0, none⟩), .pointer (some ⟨w.heap.size + 1 + 1, 0, none⟩), .pointer (some ⟨w.heap.size + 1 + 1 + 1, 0, none⟩), .int .i64 x.p, .pointer (some ⟨Bx, 0, none⟩), .func (.func 47) #[] #[.pointer (some ⟨Bs, 0, none⟩)], .int .i64 x.p, insV x, undef, undef, undef, undef, undef, undef, undef, undef, undef, undef, undef, undef, undef, undef, undef, undef, undef, undef, undef, undef, undef, undef, undef, undef, undef, undef, undef], defers := [] })
    (fun x a' => Own.from (fun s A B row hs hg hr => by
      obtain ⟨Bx, h1, h2, h3⟩ := hs
      exact ⟨Bx, h1, (hg.block Bx h2.lt (fun e => by obtain ⟨o, ho, hc⟩ := hr Bx e.symm; rw [show A.heap[Bx]? = _ from h2] at ho; cases ho; cases hc)).trans h2, h3⟩) _) ?assign ?body ?done ?stop
  case assign =>
    rintro l pre ⟨xp, xop, xa, xb⟩ W K ⟨⟨⟨⟨i3, i0⟩, i1, i2⟩, hp⟩, hB⟩ hK
    unfold insE insV
    gi_wp2
    exact hK _ _ ((KeepsOthers.alloc _ _).from _) ((Below.refl _ W).alloc hB.size _) ⟨⟨⟨⟨i3.alloc _, i0.alloc _⟩, i1.alloc _, i2.alloc _⟩, hp⟩, hB.alloc hB.size _⟩ ⟨W.heap.size, i3.lt, BoxI.new W ⟨xp, xop, xa, xb⟩, rfl⟩
  case body =>
    rintro l pre ⟨xp, xop, xa, xb⟩ a' W hl ⟨r, hr⟩ ⟨⟨⟨⟨i3, i0⟩, i1, i2⟩, hp⟩, hB⟩ ⟨Bx, hBx, bX, rfl⟩ hlt
    have c3 := i3.cell
    have f3 := i3.frozen
    have c0 := i0.cell
    have c1 := i1.cell
    have c2 := i2.cell
    have f2 := i2.frozen
    obtain ⟨x0, x1, x2, x3⟩ := bX.cells
    have hbX := bX.lt
    have HI := hid (HU.out W hB)
    have hn47 := HI.out.2.1
    have hpl := hp.out.length_le
    have HS := hid (pre_snoc hp.out ⟨xp, xop, xa, xb⟩)
    dsimp only at x0 x1 x2 x3
    unfold insV
    dsimp only
    clear hr
    by_cases hk : pre.length < L.length
    · obtain ⟨⟨yp, yop, ya, yb⟩, hy⟩ : ∃ y, L[pre.length]? = some y := ⟨L[pre.length], List.getElem?_eq_getElem hk⟩
      obtain ⟨b, o, cap', hv, hb', d0, d1, d2, d3⟩ := ins_at HI.out hy
      obtain ⟨rfl, -, rfl⟩ := Value.slice.inj hv
      have hd : decide (L.length ≤ pre.length) = false := by simp; omega
      have hk' : (pre.length : Int) < (L.length : Int) := by omega
      dsimp only at d0 d1 d2 d3
      by_cases hxy : (⟨xp, xop, xa, xb⟩ : Op1.Ins) = ⟨yp, yop, ya, yb⟩
      · obtain ⟨rfl, rfl, rfl, rfl⟩ := Op1.Ins.mk.inj hxy
        have HY := hid (HS.out.2 hy)
        clear hxy hy hv
        gi_wp2
        (refine Kit.round_quiet_lit (by kernel_rfl) (by kernel_rfl) (by kernel_rfl) ?_; (repeat (gi_big_quiet_step (fail))); refine wpQuietIn_nil ?_; intro _ hw'; obtain ⟨nq, hw''⟩ := hw'; subst hw'')
        gi_wp2
        all_goals
          have j0 : Boxed (W.drewN nq) w.heap.size 30 (.slice (some ⟨b, o, none⟩) L.length ucap) := i0
          have j1 : Boxed (W.drewN nq) (w.heap.size + 1) 3 (.int .i64 stop) := i1
          have j2 : Boxed (W.drewN nq) (w.heap.size + 1 + 1) 4 (.bool false) := i2
          have j3 : Boxed (W.drewN nq) (w.heap.size + 1 + 1 + 1) 3 (.int .i64 (pre.length : Nat)) := i3
        · exact ⟨(((KeepsOthers.drewN W nq).trans (KeepsOthers.setCell _ _ _)).trans (KeepsOthers.setCell _ _ _)).from _, ⟨rfl, true, (j2.other (by omega) _).set _, fun h => by cases h⟩, (by repeat' first | with_reducible exact hB | with_reducible exact Below.refl _ _ | with_reducible refine belows_drewN ?_ _ | with_reducible refine Below.drew ?_ | with_reducible refine Below.setCell ?_ ?_ _ | omega | (simp; omega))⟩
        · have el : (.int .i64 ((pre.length : Int) + 1) : Value) = .int .i64 (((pre ++ [(⟨xp, xop, xa, xb⟩ : Op1.Ins)]).length : Nat) : Int) := by simp
          exact ⟨((KeepsOthers.drewN W nq).trans (KeepsOthers.setCell _ _ _)).from _, (by repeat' first | with_reducible exact hB | with_reducible exact Below.refl _ _ | with_reducible refine belows_drewN ?_ _ | with_reducible refine Below.drew ?_ | with_reducible refine Below.setCell ?_ ?_ _ | omega | (simp; omega)), ⟨⟨⟨by rw [← el]; exact j3.set _, j0.other (by omega) _⟩, j1.other (by omega) _, j2.other (by omega) _⟩, HY.out⟩, (by repeat' first | with_reducible exact hB | with_reducible exact Below.refl _ _ | with_reducible refine belows_drewN ?_ _ | with_reducible refine Below.drew ?_ | with_reducible refine Below.setCell ?_ ?_ _ | omega | (simp; omega))⟩
      · have HN : Hid (¬ (pre ++ [⟨xp, xop, xa, xb⟩] <+: L)) := fun h => hxy (Option.some.inj ((HS.out.1 h).symm.trans hy))
        have hne := ins_ne hxy
        clear hxy hy hv
        rcases hne with h | ⟨rfl, h⟩ | ⟨rfl, rfl, h⟩ | ⟨rfl, rfl, rfl, h⟩
        · have hq : (xp == yp) = false := by simpa using h
          clear h
          (gi_wp2; (refine Kit.round_quiet_lit (by kernel_rfl) (by kernel_rfl) (by kernel_rfl) ?_; (repeat (gi_big_quiet_step (fail))); refine wpQuietIn_nil ?_; intro _ hw'; obtain ⟨nq, hw''⟩ := hw'; subst hw''); gi_wp2; have j2 : Boxed (W.drewN nq) (w.heap.size + 1 + 1) 4 (.bool false) := i2; exact ⟨((KeepsOthers.drewN W nq).trans (KeepsOthers.setCell _ _ _)).from _, ⟨rfl, false, j2.set _, fun _ => HN.out⟩, (by repeat' first | with_reducible exact hB | with_reducible exact Below.refl _ _ | with_reducible refine belows_drewN ?_ _ | with_reducible refine Below.drew ?_ | with_reducible refine Below.setCell ?_ ?_ _ | omega | (simp; omega))⟩)
        · have hq : (xop == yop) = false := by simpa using h
          clear h
          (gi_wp2; (refine Kit.round_quiet_lit (by kernel_rfl) (by kernel_rfl) (by kernel_rfl) ?_; (repeat (gi_big_quiet_step (fail))); refine wpQuietIn_nil ?_; intro _ hw'; obtain ⟨nq, hw''⟩ := hw'; subst hw''); gi_wp2; have j2 : Boxed (W.drewN nq) (w.heap.size + 1 + 1) 4 (.bool false) := i2; exact ⟨((KeepsOthers.drewN W nq).trans (KeepsOthers.setCell _ _ _)).from _, ⟨rfl, false, j2.set _, fun _ => HN.out⟩, (by repeat' first | with_reducible exact hB | with_reducible exact Below.refl _ _ | with_reducible refine belows_drewN ?_ _ | with_reducible refine Below.drew ?_ | with_reducible refine Below.setCell ?_ ?_ _ | omega | (simp; omega))⟩)
        · have hq : (xa == ya) = false := by simpa using h
          clear h
          (gi_wp2; (refine Kit.round_quiet_lit (by kernel_rfl) (by kernel_rfl) (by kernel_rfl) ?_; (repeat (gi_big_quiet_step (fail))); refine wpQuietIn_nil ?_; intro _ hw'; obtain ⟨nq, hw''⟩ := hw'; subst hw''); gi_wp2; have j2 : Boxed (W.drewN nq) (w.heap.size + 1 + 1) 4 (.bool false) := i2; exact ⟨((KeepsOthers.drewN W nq).trans (KeepsOthers.setCell _ _ _)).from _, ⟨rfl, false, j2.set _, fun _ => HN.out⟩, (by repeat' first | with_reducible exact hB | with_reducible exact Below.refl _ _ | with_reducible refine belows_drewN ?_ _ | with_reducible refine Below.drew ?_ | with_reducible refine Below.setCell ?_ ?_ _ | omega | (simp; omega))⟩)
        · have hq : (xb == yb) = false := by simpa using h
          clear h
          (gi_wp2; (refine Kit.round_quiet_lit (by kernel_rfl) (by kernel_rfl) (by kernel_rfl) ?_; (repeat (gi_big_quiet_step (fail))); refine wpQuietIn_nil ?_; intro _ hw'; obtain ⟨nq, hw''⟩ := hw'; subst hw''); gi_wp2; have j2 : Boxed (W.drewN nq) (w.heap.size + 1 + 1) 4 (.bool false) := i2; exact ⟨((KeepsOthers.drewN W nq).trans (KeepsOthers.setCell _ _ _)).from _, ⟨rfl, false, j2.set _, fun _ => HN.out⟩, (by repeat' first | with_reducible exact hB | with_reducible exact Below.refl _ _ | with_reducible refine belows_drewN ?_ _ | with_reducible refine Below.drew ?_ | with_reducible refine Below.setCell ?_ ?_ _ | omega | (simp; omega))⟩)
    · have hd : decide (L.length ≤ pre.length) = true := by simp; omega
      have HN : Hid (¬ (pre ++ [⟨xp, xop, xa, xb⟩] <+: L)) := fun h => by have := HS.out.1 h; rw [List.getElem?_eq_none (by omega)] at this; cases this
      clear hk
      (gi_wp2; (refine Kit.round_quiet_lit (by kernel_rfl) (by kernel_rfl) (by kernel_rfl) ?_; (repeat (gi_big_quiet_step (fail))); refine wpQuietIn_nil ?_; intro _ hw'; obtain ⟨nq, hw''⟩ := hw'; subst hw''); gi_wp2; have j2 : Boxed (W.drewN nq) (w.heap.size + 1 + 1) 4 (.bool false) := i2; exact ⟨((KeepsOthers.drewN W nq).trans (KeepsOthers.setCell _ _ _)).from _, ⟨rfl, false, j2.set _, fun _ => HN.out⟩, (by repeat' first | with_reducible exact hB | with_reducible exact Below.refl _ _ | with_reducible refine belows_drewN ?_ _ | with_reducible refine Below.drew ?_ | with_reducible refine Below.setCell ?_ ?_ _ | omega | (simp; omega))⟩)
  case done =>
    rintro D ys W hD ⟨p, hys, hye⟩ ⟨⟨⟨⟨i3, i0⟩, i1, i2⟩, hp⟩, hB⟩ hK
    obtain ⟨rfl, -⟩ := Op1.Pre.same hys HP.out hye HE.out
    have c3 := i3.cell
    have c0 := i0.cell
    have c2 := i2.cell
    have f2 := i2.frozen
    gi_wp2
    have hK' := (KeepsOthers.setCell W ⟨w.heap.size + 1 + 1, 0, none⟩ (.bool true)).same D _ hK rfl
    refine ⟨by simp, .inl ⟨_, _, rfl, run_takeDeferred hK', ?_⟩⟩
    have hc5 := cell_kept (World.cell?_setCell_same' W ⟨w.heap.size + 1 + 1, 0, none⟩ (.bool true) (by rw [c2]; rfl)) (grownBy_putObj' _ D (.deferred none)) (fun r e => by cases e; exact ⟨_, hK', rfl⟩)
    refine ⟨.bool true, ?_, rfl, (hB.setCell (p := ⟨w.heap.size + 1 + 1, 0, none⟩) (by show w.heap.size ≤ w.heap.size + 1 + 1; omega) _).trans (belowK_b (w := w) (Nat.le_refl _) _ D _ _ (by omega) hK' rfl rfl)⟩
    simp [results, Tryd.f27, go_sem, hc5]
  case stop =>
    rintro D c pre W hD ⟨p, hpre⟩ ⟨⟨rfl, b, hb, hn⟩, hB⟩ hK
    have hpL : pre <+: L := by
      by_cases hle : pre.length ≤ L.length
      · obtain ⟨h1, -, -⟩ := hpre.cmp HP.out hle
        rw [← h1]; exact List.take_prefix _ _
      · exact absurd ((HP.out.cmp hpre (by omega)).2.1 (by omega)) HE.out
    obtain rfl : b = true := by
      cases b with
      | true => rfl
      | false => exact absurd hpL (hn rfl)
    clear hn
    gi_wp2
    refine ⟨by simp, .inl ⟨_, _, rfl, run_takeDeferred hK, ?_⟩⟩
    have hc5 := cell_kept hb.cell (grownBy_putObj' _ D (.deferred none)) (fun r e => by cases e; exact ⟨_, hK, rfl⟩)
    refine ⟨.bool true, ?_, rfl, hB.trans (belowK_b (w := w) (Nat.le_refl _) _ D _ _ (by omega) hK rfl rfl)⟩
    simp [results, Tryd.f27, go_sem, hc5]
end Go.Proofs.YtihklojiionanaaDoor
