/- Contract of the document's Next. -/
import Derived.Test.YtknacnbicmafjaaDoorOpFc
import Derived.Lib.QuietBelow
namespace Go.Proofs.YtknacnbicmafjaaDoor
open Go.RowKit Go.Sort

set_option maxRecDepth 100000 in
set_option maxHeartbeats 1000000 in
theorem rnext_any (l : List Op1.Ins) (v : Value) (i : Int) (w : World) (hl : Kit.IsS 4 w v l.length (insCells l)) (hn : l.length * 32 ≤ 140737488355328) :
    Calls Tryd.prog 34 #[v, .int .i64 i] w (NextPost (nextL l i) w) := by
  have HL := hid hl
  obtain ⟨a, cap, hv⟩ := hl.len
  subst hv
  clear hl
  by_cases h0 : i < 0 ∨ (l.length : Int) ≤ i
  · have hnil : nextL l i = [] := by
      unfold nextL
      rcases h0 with h | h
      · rw [if_neg (by omega)]
      · split
        · rw [List.getElem?_eq_none (by omega)]
        · rfl
    rw [hnil]
    by_cases hz : 0 < l.length
    · have e1 : decide (0 < l.length) = true := by simpa using hz
      have e2 : decide ((0 : Int) < (l.length : Int)) = true := by simp; omega
      rcases h0 with h0 | h0
      · have hd : decide (0 ≤ i) = false := by simp; omega
        go_enter Tryd.func34, Tryd.ntmps34
        go_wp2
        refine wp_loop_rounds 1 ?_
        rw [rounds_succ]
        go_wp2
        go_ret
        exact ⟨_, rfl, nilN _ _, (by repeat' first | with_reducible exact Below.refl _ _ | with_reducible assumption | with_reducible refine belows_drewN ?_ _ | with_reducible refine Below.drew ?_ | with_reducible refine Below.setCell ?_ ?_ _ | with_reducible refine Below.alloc ?_ ?_ _ | omega | (simp; done) | (simp; omega))⟩
      · have hd : decide (0 ≤ i) = true := by simp; omega
        have hd2 : decide (i < (l.length : Int)) = false := by simp; omega
        go_enter Tryd.func34, Tryd.ntmps34
        go_wp2
        refine wp_loop_rounds 1 ?_
        rw [rounds_succ]
        go_wp2
        go_ret
        exact ⟨_, rfl, nilN _ _, (by repeat' first | with_reducible exact Below.refl _ _ | with_reducible assumption | with_reducible refine belows_drewN ?_ _ | with_reducible refine Below.drew ?_ | with_reducible refine Below.setCell ?_ ?_ _ | with_reducible refine Below.alloc ?_ ?_ _ | omega | (simp; done) | (simp; omega))⟩
    · have hz' : l.length = 0 := by omega
      have Hz := hid hz'
      generalize l.length = n at *
      subst hz'
      clear h0
      go_enter Tryd.func34, Tryd.ntmps34
      go_wp2
      refine wp_loop_rounds 1 ?_
      rw [rounds_succ]
      go_wp2
      go_ret
      exact ⟨_, rfl, nilN _ _, (by repeat' first | with_reducible exact Below.refl _ _ | with_reducible assumption | with_reducible refine belows_drewN ?_ _ | with_reducible refine Below.drew ?_ | with_reducible refine Below.setCell ?_ ?_ _ | with_reducible refine Below.alloc ?_ ?_ _ | omega | (simp; done) | (simp; omega))⟩
  · obtain ⟨q, rfl⟩ := Int.eq_ofNat_of_zero_le (show 0 ≤ i by omega)
    have hq : q < l.length := by omega
    have hd : decide (0 ≤ (q : Int)) = true := by simp
    have hd2 : decide ((q : Int) < (l.length : Int)) = true := by simp; omega
    obtain ⟨x, hx⟩ : ∃ x, l[q]? = some x := ⟨l[q], List.getElem?_eq_getElem hq⟩
    have hnx : nextL l q = (List.range l.length).filter (nxB l x q) := by
      unfold nextL
      rw [if_pos (by omega), Int.toNat_natCast, hx]
    rw [hnx]
    obtain ⟨i0, hi, hz0, hz1, hz2⟩ := info_parts A.info3
    have HF : Hid (∀ k y, l[k]? = some y → nxB l x q k = ((k == q + 1 && !Op1.endsB x.op) || (jB x.op && y.p == x.a))) := fun k y hk => by unfold nxB; rw [hk]
    have HE := hid (fun (W : World) d os => Calls.regrown_of (d := d) (os := os) (w := W) ((rends_any x.op _).mono fun _ _ ⟨he, hw⟩ => ⟨he, hw ▸ Below.refl _ _⟩))
    have HJ := hid (fun (W : World) d os => Calls.regrown_of (d := d) (os := os) (w := W) (rjumps_any x.op _))
    generalize Op1.endsB x.op = en at *
    generalize jB x.op = J at *
    generalize nxB l x q = f at *
    have HX := hid hx
    clear hx hnx h0
    go_enter Tryd.func34, Tryd.ntmps34
    go_wp2
    go_loopw [6, 5] (fun k v wr => ∃ n : Nat, n ≤ l.length ∧ k = .int .i64 n ∧ OwnN wr w.heap.size v ((List.range n).filter f) ∧ Below w.heap.size w wr) (fun k _ _ => l.length - (intOf k).toNat)
    case atStart => exact ⟨0, by omega, rfl, nilN _ _, (by repeat' first | with_reducible exact Below.refl _ _ | with_reducible assumption | with_reducible refine belows_drewN ?_ _ | with_reducible refine Below.drew ?_ | with_reducible refine Below.setCell ?_ ?_ _ | with_reducible refine Below.alloc ?_ ?_ _ | omega | (simp; done) | (simp; omega))⟩
    case round =>
      obtain ⟨k, hk, rfl, hown, hbl⟩ := hrel
      by_cases hlt : k < l.length
      · obtain ⟨y, hy⟩ : ∃ y, l[k]? = some y := ⟨l[k], List.getElem?_eq_getElem hlt⟩
        have hIr := HL.out.below hbl (Nat.le_refl _)
        obtain ⟨b, o, cap', hv, hb, c0, c1, c2, c3⟩ := ins_at hIr HX.out
        obtain ⟨rfl, -, rfl⟩ := Value.slice.inj hv
        obtain ⟨b', o', cap'', hv', hb', d0, d1, d2, d3⟩ := ins_at hIr hy
        obtain ⟨e1, -, e2⟩ := Value.slice.inj hv'
        obtain ⟨rfl, rfl, -⟩ := Addr.mk.inj (Option.some.inj e1)
        obtain rfl := e2
        have hf := HF.out k y hy
        obtain ⟨yp, yop, ya, yb⟩ := y
        obtain ⟨xp, xop, xa, xb⟩ := x
        dsimp only at c0 c1 c2 c3 d0 d1 d2 d3 hf HE HJ
        obtain ⟨b1, hb1⟩ : ∃ b1, b1 = (k == q + 1) := ⟨_, rfl⟩
        have hb1' : ((k : Int) == (q : Int) + 1) = b1 := by rw [hb1, Bool.eq_iff_iff]; simp; omega
        obtain ⟨b4, hb4⟩ : ∃ b4, (yp == xa) = b4 := ⟨_, rfl⟩
        rw [← hb1, hb4] at hf
        have Hf := hid hf
        have x1 := fun d os => cell_regrown c1 d os
        have x2 := fun d os => cell_regrown c2 d os
        have y0 := fun d os => cell_regrown d0 d os
        have i1 : (q : Int) < (l.length : Int) := by omega
        have i2 : (k : Int) < (l.length : Int) := by omega
        have i3 : IntKind.i64.wrap ((q : Int) + 1) = (q : Int) + 1 := IntWalk.i64_in _ (by omega)
        have HEr := hid (HE.out wr)
        have HJr := hid (HJ.out wr)
        clear hf hb1 hy hv e1 hv' hIr c0 c1 c2 c3 d0 d1 d2 d3
        cases b1
        · cases J
          · (go_wp2; refine wp_region_quiet_below (by kernel_rfl) (by kernel_rfl) ?_; (iterate 34 (go_big_quiet_step ((first | exact HEr.out _ _ | exact HJr.out _ _)))); refine wpQuiet_nil ?_; intro W hw'; obtain ⟨⟨dq, osq⟩, hw''⟩ := hw'; have hbq := below_regrown wr dq osq; rw [← hw''] at hbq; clear hw''; have hbW := belows hbl hbq hbl.size; have hownW := Kit.owns_below hown hbq (Nat.le_refl _); have hzW := hbW.size; have HK : Hid (f k = false) := Hf.out; go_wp2; go_roundw; (case rel => exact ⟨k + 1, by omega, by go_num, by rw [filter_no HK.out]; exact hownW, hbW⟩); (case measure => simp [intOf]; omega))
          · cases b4
            · (go_wp2; refine wp_region_quiet_below (by kernel_rfl) (by kernel_rfl) ?_; (iterate 34 (go_big_quiet_step ((first | exact HEr.out _ _ | exact HJr.out _ _)))); refine wpQuiet_nil ?_; intro W hw'; obtain ⟨⟨dq, osq⟩, hw''⟩ := hw'; have hbq := below_regrown wr dq osq; rw [← hw''] at hbq; clear hw''; have hbW := belows hbl hbq hbl.size; have hownW := Kit.owns_below hown hbq (Nat.le_refl _); have hzW := hbW.size; have HK : Hid (f k = false) := Hf.out; go_wp2; go_roundw; (case rel => exact ⟨k + 1, by omega, by go_num, by rw [filter_no HK.out]; exact hownW, hbW⟩); (case measure => simp [intOf]; omega))
            · (go_wp2; refine wp_region_quiet_below (by kernel_rfl) (by kernel_rfl) ?_; (iterate 34 (go_big_quiet_step ((first | exact HEr.out _ _ | exact HJr.out _ _)))); refine wpQuiet_nil ?_; intro W hw'; obtain ⟨⟨dq, osq⟩, hw''⟩ := hw'; have hbq := below_regrown wr dq osq; rw [← hw''] at hbq; clear hw''; have hbW := belows hbl hbq hbl.size; have hownW := Kit.owns_below hown hbq (Nat.le_refl _); have hzW := hbW.size; have HK : Hid (f k = true) := Hf.out; have hfl := filter_le f k; go_wp2_with (at_builtin; refine wpList_append_own _ rfl (.tmp 57) (.tmp 59) 49 rfl w.heap.size 3 i0 _ 1 8 Tryd.underlying49 hi hz0 hz1 hz2 rfl (by decide) _ _ _ rfl (hownW.alloc _) ⟨W.heap.size, 0, none⟩ 1 1 [.int .i64 (k : Int)] rfl rfl (Kit.news_one W (.int .i64 (k : Int)) 3) (Kit.ones_one rfl) (by unfold maxLen; omega) (by omega) (by simp only [World.size_alloc]; omega) ?_; intro v' w1 hown' hgrow _); have hbw : Below w.heap.size w w1 := (Kit.below_grown (by repeat' first | with_reducible exact Below.refl _ _ | with_reducible assumption | with_reducible refine belows_drewN ?_ _ | with_reducible refine Below.drew ?_ | with_reducible refine Below.setCell ?_ ?_ _ | with_reducible refine Below.alloc ?_ ?_ _ | omega | (simp; done) | (simp; omega)) hgrow (by simp only [World.size_alloc]; omega) (Kit.own_base hownW)); go_roundw; (case rel => exact ⟨k + 1, by omega, by go_num, by rw [filter_yes HK.out]; exact ownN_snoc hown', hbw⟩); (case measure => simp [intOf]; omega))
        · cases en
          · (go_wp2; refine wp_region_quiet_below (by kernel_rfl) (by kernel_rfl) ?_; (iterate 34 (go_big_quiet_step ((first | exact HEr.out _ _ | exact HJr.out _ _)))); refine wpQuiet_nil ?_; intro W hw'; obtain ⟨⟨dq, osq⟩, hw''⟩ := hw'; have hbq := below_regrown wr dq osq; rw [← hw''] at hbq; clear hw''; have hbW := belows hbl hbq hbl.size; have hownW := Kit.owns_below hown hbq (Nat.le_refl _); have hzW := hbW.size; have HK : Hid (f k = true) := Hf.out; have hfl := filter_le f k; go_wp2_with (at_builtin; refine wpList_append_own _ rfl (.tmp 57) (.tmp 59) 49 rfl w.heap.size 3 i0 _ 1 8 Tryd.underlying49 hi hz0 hz1 hz2 rfl (by decide) _ _ _ rfl (hownW.alloc _) ⟨W.heap.size, 0, none⟩ 1 1 [.int .i64 (k : Int)] rfl rfl (Kit.news_one W (.int .i64 (k : Int)) 3) (Kit.ones_one rfl) (by unfold maxLen; omega) (by omega) (by simp only [World.size_alloc]; omega) ?_; intro v' w1 hown' hgrow _); have hbw : Below w.heap.size w w1 := (Kit.below_grown (by repeat' first | with_reducible exact Below.refl _ _ | with_reducible assumption | with_reducible refine belows_drewN ?_ _ | with_reducible refine Below.drew ?_ | with_reducible refine Below.setCell ?_ ?_ _ | with_reducible refine Below.alloc ?_ ?_ _ | omega | (simp; done) | (simp; omega)) hgrow (by simp only [World.size_alloc]; omega) (Kit.own_base hownW)); go_roundw; (case rel => exact ⟨k + 1, by omega, by go_num, by rw [filter_yes HK.out]; exact ownN_snoc hown', hbw⟩); (case measure => simp [intOf]; omega))
          · cases J
            · (go_wp2; refine wp_region_quiet_below (by kernel_rfl) (by kernel_rfl) ?_; (iterate 34 (go_big_quiet_step ((first | exact HEr.out _ _ | exact HJr.out _ _)))); refine wpQuiet_nil ?_; intro W hw'; obtain ⟨⟨dq, osq⟩, hw''⟩ := hw'; have hbq := below_regrown wr dq osq; rw [← hw''] at hbq; clear hw''; have hbW := belows hbl hbq hbl.size; have hownW := Kit.owns_below hown hbq (Nat.le_refl _); have hzW := hbW.size; have HK : Hid (f k = false) := Hf.out; go_wp2; go_roundw; (case rel => exact ⟨k + 1, by omega, by go_num, by rw [filter_no HK.out]; exact hownW, hbW⟩); (case measure => simp [intOf]; omega))
            · cases b4
              · (go_wp2; refine wp_region_quiet_below (by kernel_rfl) (by kernel_rfl) ?_; (iterate 34 (go_big_quiet_step ((first | exact HEr.out _ _ | exact HJr.out _ _)))); refine wpQuiet_nil ?_; intro W hw'; obtain ⟨⟨dq, osq⟩, hw''⟩ := hw'; have hbq := below_regrown wr dq osq; rw [← hw''] at hbq; clear hw''; have hbW := belows hbl hbq hbl.size; have hownW := Kit.owns_below hown hbq (Nat.le_refl _); have hzW := hbW.size; have HK : Hid (f k = false) := Hf.out; go_wp2; go_roundw; (case rel => exact ⟨k + 1, by omega, by go_num, by rw [filter_no HK.out]; exact hownW, hbW⟩); (case measure => simp [intOf]; omega))
              · (go_wp2; refine wp_region_quiet_below (by kernel_rfl) (by kernel_rfl) ?_; (iterate 34 (go_big_quiet_step ((first | exact HEr.out _ _ | exact HJr.out _ _)))); refine wpQuiet_nil ?_; intro W hw'; obtain ⟨⟨dq, osq⟩, hw''⟩ := hw'; have hbq := below_regrown wr dq osq; rw [← hw''] at hbq; clear hw''; have hbW := belows hbl hbq hbl.size; have hownW := Kit.owns_below hown hbq (Nat.le_refl _); have hzW := hbW.size; have HK : Hid (f k = true) := Hf.out; have hfl := filter_le f k; go_wp2_with (at_builtin; refine wpList_append_own _ rfl (.tmp 57) (.tmp 59) 49 rfl w.heap.size 3 i0 _ 1 8 Tryd.underlying49 hi hz0 hz1 hz2 rfl (by decide) _ _ _ rfl (hownW.alloc _) ⟨W.heap.size, 0, none⟩ 1 1 [.int .i64 (k : Int)] rfl rfl (Kit.news_one W (.int .i64 (k : Int)) 3) (Kit.ones_one rfl) (by unfold maxLen; omega) (by omega) (by simp only [World.size_alloc]; omega) ?_; intro v' w1 hown' hgrow _); have hbw : Below w.heap.size w w1 := (Kit.below_grown (by repeat' first | with_reducible exact Below.refl _ _ | with_reducible assumption | with_reducible refine belows_drewN ?_ _ | with_reducible refine Below.drew ?_ | with_reducible refine Below.setCell ?_ ?_ _ | with_reducible refine Below.alloc ?_ ?_ _ | omega | (simp; done) | (simp; omega)) hgrow (by simp only [World.size_alloc]; omega) (Kit.own_base hownW)); go_roundw; (case rel => exact ⟨k + 1, by omega, by go_num, by rw [filter_yes HK.out]; exact ownN_snoc hown', hbw⟩); (case measure => simp [intOf]; omega))
      · obtain rfl : k = l.length := by omega
        go_wp2
        go_ret
        exact ⟨_, rfl, hown, (by repeat' first | with_reducible exact Below.refl _ _ | with_reducible assumption | with_reducible refine belows_drewN ?_ _ | with_reducible refine Below.drew ?_ | with_reducible refine Below.setCell ?_ ?_ _ | with_reducible refine Below.alloc ?_ ?_ _ | omega | (simp; done) | (simp; omega))⟩
end Go.Proofs.YtknacnbicmafjaaDoor
