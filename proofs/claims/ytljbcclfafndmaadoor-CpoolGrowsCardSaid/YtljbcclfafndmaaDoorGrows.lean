/- CpoolGrows: what Add adds stands where it says, leaves what was there, and can be added again. -/
import Derived.Test.YtljbcclfafndmaaDoorDq
import Derived.Test.YtljbcclfafndmaaDoorDr
import Derived.Test.YtljbcclfafndmaaDoorDd
import Derived.Test.YtljbcclfafndmaaDoorOpn
import Derived.Lib.QuietBelow
namespace Go.Proofs.YtljbcclfafndmaaDoor
open Go.RowKit Go.Sort

theorem isS_pre {W : World} {b o cap : Nat} {l t : List Cp.C} (h : Kit.IsS 5 W (.slice (some ⟨b, o, none⟩) (l ++ t).length cap) (l ++ t).length ((l ++ t).flatMap cL)) : Kit.IsS 5 W (.slice (some ⟨b, o, none⟩) l.length cap) l.length (l.flatMap cL) := by
  have hle : l.length ≤ (l ++ t).length := by rw [List.length_append]; omega
  refine ⟨Kit.flat_len cL_len l, by have := h.2.1; omega, ?_⟩
  by_cases h0 : l.length = 0
  · exact .inl ⟨h0, _, _, by rw [h0]⟩
  · obtain ⟨b', o', cap', hv, h1, h2, h3⟩ := h.some (by omega)
    obtain ⟨e1, -, rfl⟩ := Value.slice.inj hv
    obtain ⟨rfl, rfl, -⟩ := Addr.mk.inj (Option.some.inj e1)
    refine .inr ⟨b, o, cap, rfl, by omega, h2, fun j u hj => h3 j u ?_⟩
    rw [List.flatMap_append, List.getElem?_append_left (by rw [List.getElem?_eq_some_iff] at hj; exact hj.1)]
    exact hj
set_option maxRecDepth 100000 in
set_option maxHeartbeats 4000000 in
theorem grows_law (l more : List Cp.C) (v u : Value) (w : World) (ht : Tabs w) (hv : Kit.IsS 5 w v l.length (l.flatMap cL)) (hu : Kit.IsS 5 w u more.length (more.flatMap cL)) (hg : ∀ x ∈ l, GoodC x) (hg2 : ∀ x ∈ more, GoodC x) :
    Calls Tryd.prog 8 #[v, u] w fun e w' => e = .returned (.bool true) ∧ Below w.heap.size w w' := by
  have hs0 := ht.size
  have HT := hid (fun W (h : Below w.heap.size w W) => ht.below h ht.size)
  have HV := hid (fun W (h : Below w.heap.size w W) => hv.below h (Nat.le_refl _))
  have HU := hid (fun W (h : Below w.heap.size w W) => hu.below h (Nat.le_refl _))
  have HG := hid (fun x (h : x ∈ l) => (hg x h).s)
  have HG2 := hid (fun x (h : x ∈ more) => (hg2 x h).s)
  obtain ⟨a, cap, rfl⟩ := hv.len
  obtain ⟨a2, cap2, rfl⟩ := hu.len
  have hul := hu.2.1
  clear ht hv hu hg hg2
  by_cases h0 : CkIs l 0
  case neg =>
    have H0 := hid h0
    clear h0
    go_enter Tryd.func8, Tryd.ntmps8
    go_wp2_with (first
      | (go_at_call 12; refine (live_any _ (HT.out _ (by repeat' first | with_reducible exact Below.refl _ _ | with_reducible assumption | with_reducible refine belows_drewN ?_ _ | with_reducible refine Below.drew ?_ | with_reducible refine Below.setCell ?_ ?_ _ | with_reducible refine Below.alloc ?_ ?_ _ | omega | (simp; done) | (simp; omega)))).mono ?_; rintro e w5 ⟨rfl, B5⟩)
      | (go_at_call 17; refine (check_any l _ _ (HT.out _ B5) (HV.out _ B5) HG.out).mono ?_; rintro e w6 ⟨er, hck, rfl, hb6⟩; have hne : (er != 0) = true := (by (simp; rintro rfl; exact H0.out hck)); have B6 := belows B5 hb6 B5.size; clear hck))
    go_ret
    exact ⟨rfl, B6⟩
  case pos =>
  have H0 := hid h0
  clear h0
  go_enter Tryd.func8, Tryd.ntmps8
  go_wp2_with (first
    | (go_at_call 12; refine (live_any _ (HT.out _ (by repeat' first | with_reducible exact Below.refl _ _ | with_reducible assumption | with_reducible refine belows_drewN ?_ _ | with_reducible refine Below.drew ?_ | with_reducible refine Below.setCell ?_ ?_ _ | with_reducible refine Below.alloc ?_ ?_ _ | omega | (simp; done) | (simp; omega)))).mono ?_; rintro e w5 ⟨rfl, B5⟩)
    | (go_at_call 17; refine (check_any l _ _ (HT.out _ B5) (HV.out _ B5) HG.out).mono ?_; rintro e w6 ⟨er, hck, rfl, hb6⟩; obtain rfl := CkIs.det hck H0.out; have B6 := belows B5 hb6 B5.size; clear hck))
  go_loopw [0, 20] (fun q i wr => ∃ (k : Nat) (cur : List Cp.C), k ≤ more.length ∧ i = .int .i64 k ∧ Hid (Kit.IsS 5 wr q cur.length (cur.flatMap cL)) ∧ Hid (CkIs cur 0) ∧ Hid (∀ x ∈ cur, x.s.size ≤ 140737488355328) ∧ Below w.heap.size w wr) (fun _ i _ => more.length - (intOf i).toNat)
  case atStart => exact ⟨0, l, by omega, rfl, HV.out _ B6, H0, HG, B6⟩
  case round =>
    obtain ⟨k, cur, hk, rfl, HS, HC, HGc, hbl⟩ := hrel
    have hbz := hbl.size
    obtain ⟨a3, cap3, hq⟩ := HS.out.len
    subst hq
    have hcl := (ck_size HC.out).1
    by_cases hlt : k < more.length
    · obtain ⟨c, hc⟩ : ∃ c, more[k]? = some c := ⟨more[k], List.getElem?_eq_getElem hlt⟩
      obtain ⟨b, o, cap', hv', hb, d0, d1, d2, d3, d4⟩ := c_at (HU.out wr hbl) hc
      obtain ⟨rfl, -, rfl⟩ := Value.slice.inj hv'
      have hcs := HG2.out c (List.mem_of_getElem? hc)
      have hki : (k : Int) < more.length := by omega
      obtain ⟨t, s, n, ca, cb⟩ := c
      dsimp only at d0 d1 d2 d3 d4 hcs
      have hb0 : Below wr.heap.size wr (wr.alloc (.cells #[.int .i64 t, .string s, .int .i64 n, .int .i64 ca, .int .i64 cb] 46)) := (Below.refl _ wr).alloc (Nat.le_refl _) _
      have HA0 := add_any cur ⟨t, s, n, ca, cb⟩ _ _ (HT.out _ (belows hbl hb0 hbz)) (HS.out.below hb0 (Nat.le_refl _)) HGc.out hcs (by omega)
      have bx0 := BX.new wr #[.int .i64 t, .string s, .int .i64 n, .int .i64 ca, .int .i64 cb] 46
      have B0 := belows hbl hb0 hbz
      unfold cC at HA0
      dsimp only at HA0
      have HA := hid HA0
      clear HA0 hv' hc
      by_cases hex : ∃ m i, AdIs cur ⟨t, s, n, ca, cb⟩ m i 0
      · obtain ⟨m, i, hA⟩ := hex
        have HAd := hid hA
        obtain ⟨h1, hmi, ⟨tl, hmt⟩, hmc, hA2, hmem⟩ := ad_good hA
        have hil : i < m.length := (List.getElem?_eq_some_iff.1 hmi).1
        have hml := (ck_size hmc).1
        have HMi := hid hmi
        have HMt := hid hmt
        have HMc := hid hmc
        have HA2 := hid hA2
        have HGm := hid (show ∀ x ∈ m, x.s.size ≤ 140737488355328 from fun x hx => by
          rcases hmem x hx with h | rfl | rfl
          · exact HGc.out x h
          · exact hcs
          · show 0 ≤ 140737488355328; omega)
        have hlm : cur.length ≤ m.length := by rw [hmt, List.length_append]; omega
        clear hA hmi hmt hmc hA2 hmem
        go_wp2_with (go_at_call 29; refine HA.out.mono ?_; rintro e w2 ⟨m', i', er', v2, hA, rfl, o2, hb2⟩; obtain ⟨rfl, rfl, rfl⟩ := AdIs.det hA HAd.out; have hS2 := Kit.isS_of_owns o2 (by omega); obtain ⟨b2, o2', cap2', rfl, hb2', e0, e1, e2, e3, e4⟩ := c_at hS2 HMi.out; have B2 := belows B0 hb2 B0.size; have bx2 := bx0.below hb2 bx0.sz; have HS2 := hid hS2; have hc2 : m'.length ≤ cap2' := (by (obtain ⟨x1, x2, x3, x4, x5, -, -⟩ := hS2.some (by omega); obtain ⟨-, -, rfl⟩ := Value.slice.inj x4; exact x5)); clear hA hS2 o2)
        have hb02 := belows hb0 hb2 hb0.size
        have HSl : Hid (Kit.IsS 5 w2 (.slice (some ⟨b2, o2', none⟩) cur.length cap2') cur.length (cur.flatMap cL)) := by
          have h := HS2.out
          have e := HMt.out
          subst e
          exact isS_pre h
        have HSc := hid (HS.out.below hb02 (Nat.le_refl _))
        have j1 : decide (i' < 1) = false := by simp; omega
        have j2 : decide ((i' : Int) < 1) = false := by simp; omega
        have j3 : decide (m'.length ≤ i') = false := by simp; omega
        have j4 : decide (m'.length < cur.length) = false := by simp; omega
        have j5 : (i' : Int) < (m'.length : Int) := by omega
        have j6 : (cur.length : Int) ≤ (cap2' : Int) := by omega
        have j7 : (0 : Int) ≤ (cur.length : Int) := by omega
        have j8 : ¬ cap2' = 0 := by omega
        have y0 := fun d os => cell_regrown e0 d os
        have y1 := fun d os => cell_regrown e1 d os
        have y2 := fun d os => cell_regrown e2 d os
        have y3 := fun d os => cell_regrown e3 d os
        have y4 := fun d os => cell_regrown e4 d os
        have z0 := fun d os => cell_regrown (bx2.cell 0) d os
        have z1 := fun d os => cell_regrown (bx2.cell 1) d os
        have z2 := fun d os => cell_regrown (bx2.cell 2) d os
        have z3 := fun d os => cell_regrown (bx2.cell 3) d os
        have z4 := fun d os => cell_regrown (bx2.cell 4) d os
        simp at z0 z1 z2 z3 z4
        have HEr := hid (fun d os => Calls.regrown_of (d := d) (os := os) (w := w2) (equal_any cur _ _ _ (HSl.out.below (below_regrown w2 d os) (Nat.le_refl _)) (HSc.out.below (below_regrown w2 d os) (Nat.le_refl _))))
        have HJr := hid (fun d os => Calls.regrown_of (d := d) (os := os) (w := w2) ((check_any m' _ _ (HT.out _ (belows B2 (below_regrown w2 d os) B2.size)) (HS2.out.below (below_regrown w2 d os) (Nat.le_refl _)) HGm.out).mono fun e w' ⟨er, hck, he, hb⟩ => by obtain rfl := CkIs.det hck HMc.out; exact ⟨he, hb⟩))
        clear d0 d1 d2 d3 d4 e0 e1 e2 e3 e4
        refine wp_region_quiet_below (by kernel_rfl) (by kernel_rfl) ?_
        (repeat (go_big_quiet_step ((first | exact HEr.out _ _ | exact HJr.out _ _))))
        refine wpQuiet_nil ?_
        intro W hw'
        obtain ⟨⟨dq, osq⟩, hw''⟩ := hw'
        have hbq := below_regrown w2 dq osq
        rw [← hw''] at hbq
        clear hw''
        have BW := belows B2 hbq B2.size
        have bxW := bx2.below hbq bx2.sz
        have c0 := bxW.cell 0
        have c1 := bxW.cell 1
        have c2 := bxW.cell 2
        have c3 := bxW.cell 3
        have c4 := bxW.cell 4
        simp at c0 c1 c2 c3 c4
        have HSW := hid (HS2.out.below hbq (Nat.le_refl _))
        have HAW0 := add_any m' ⟨t, s, n, ca, cb⟩ _ _ (HT.out _ BW) HSW.out HGm.out hcs (by omega)
        unfold cC at HAW0
        dsimp only at HAW0
        have HAW := hid HAW0
        clear HAW0
        clear y0 y1 y2 y3 y4 z0 z1 z2 z3 z4
        go_wp2_with (first
          | (go_at_call 29; refine HAW.out.mono ?_; rintro e w4 ⟨m4, i4, er4, v4, hA, rfl, o4, hb4⟩; obtain ⟨rfl, rfl, rfl⟩ := AdIs.det hA HA2.out; have hS4 := Kit.isS_of_owns o4 (by omega); obtain ⟨a4, cap4, rfl⟩ := own_form o4; have B4 := belows BW hb4 BW.size; have HS4 := hid hS4; have HSX := hid (HSW.out.below hb4 (Nat.le_refl _)); clear hA hS4 o4)
          | (go_at_call 33; refine (equal_any _ _ _ _ HS4.out HSX.out).mono ?_; rintro e w5 ⟨rfl, hb5⟩; have B5 := belows B4 hb5 B4.size))
        all_goals go_roundw
        all_goals first
          | (case rel => exact ⟨k + 1, _, by omega, by go_num, HSX.out.below hb5 (Nat.le_refl _), HMc, HGm, B5⟩)
          | (case measure => simp [intOf] <;> omega)
      · have hneA : ∀ m i, ¬ AdIs cur ⟨t, s, n, ca, cb⟩ m i 0 := fun m i h => hex ⟨m, i, h⟩
        have HNA := hid hneA
        clear hex hneA
        go_wp2_with (go_at_call 29; refine HA.out.mono ?_; rintro e w2 ⟨m, i, er', v2, hA, rfl, o2, hb2⟩; have hne : (er' != 0) = true := (by (simp; rintro rfl; exact HNA.out m i hA)); have B2 := belows B0 hb2 B0.size; have hb02 := belows hb0 hb2 hb0.size)
        go_roundw
        case rel => exact ⟨k + 1, cur, by omega, by go_num, HS.out.below hb02 (Nat.le_refl _), HC, HGc, B2⟩
        case measure => simp [intOf] <;> omega
    · obtain rfl : k = more.length := by omega
      go_wp2
      go_ret
      exact ⟨rfl, hbl⟩
end Go.Proofs.YtljbcclfafndmaaDoor
