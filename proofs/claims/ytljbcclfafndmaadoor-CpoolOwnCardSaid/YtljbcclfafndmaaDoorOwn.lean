/- CpoolOwn: what is handed in is left as it is, whatever is done to what was answered. -/
import Derived.Test.YtljbcclfafndmaaDoorWrites
import Derived.Test.YtljbcclfafndmaaDoorDo
import Derived.Test.YtljbcclfafndmaaDoorDq
import Derived.Test.YtljbcclfafndmaaDoorDs
import Derived.Test.YtljbcclfafndmaaDoorDe
namespace Go.Proofs.YtljbcclfafndmaaDoor
open Go.RowKit

theorem own_spots {w : World} {base : Nat} {e : TypeId} {size : Nat} {a : Option Addr} {n cap : Nat} {xs : List Value} (h : w.ownsRow base e size (.slice a n cap) n xs) (hB : base ≤ w.heap.size) :
    ∃ g, base ≤ g ∧ (0 < n → a = some ⟨g, 0, none⟩) ∧ (∀ j, j < n * size → ∃ x, w.cell? ⟨g, j, none⟩ = some x) ∧ ∀ j, w.frozen? ⟨g, j, none⟩ = false := by
  rcases h.2 with ⟨hv, h0⟩ | ⟨g, cap', cur, hv, hg, hh, hc1, hc2, hc3, -⟩
  · refine ⟨w.heap.size, hB, fun h => by omega, fun j hj => by rw [h0] at hj; omega, fun j => ?_⟩
    simp [World.frozen?]
  · obtain ⟨rfl, -, rfl⟩ := Value.slice.inj hv
    refine ⟨g, hg, fun _ => rfl, fun j hj => ?_, fun j => ?_⟩
    · have hlt : j < cur.size := by rw [hc3]; exact Nat.lt_of_lt_of_le hj (Nat.mul_le_mul_right size hc1)
      exact ⟨cur[j], by simp [World.cell?, hh, hlt]⟩
    · simp [World.frozen?, hh]
theorem spot_kept {w : World} {g i : Nat} {v : Value} {n : Nat} (h : ∀ j, j < n → ∃ x, w.cell? ⟨g, j, none⟩ = some x) : ∀ j, j < n → ∃ x, (w.setCell ⟨g, i, none⟩ v).cell? ⟨g, j, none⟩ = some x := by
  intro j hj
  obtain ⟨x, hx⟩ := h j hj
  exact ⟨_, Kit.cell_set hx⟩
theorem ad_len {l : List Cp.C} {c : Cp.C} {m : List Cp.C} {i : Nat} {er : Int} (h : AdIs l c m i er) : m.length ≤ 4096 := by
  rcases h with ⟨-, -, rfl, -⟩ | ⟨h1, ⟨-, -, rfl, -⟩ | ⟨-, ⟨-, -, rfl⟩ | ⟨-, ⟨-, -, rfl, -⟩ | ⟨h, -, rfl, -⟩⟩⟩⟩
  · simp
  · simp
  · exact (ck_size h1).1
  · simp
  · exact h
set_option maxRecDepth 100000 in
set_option maxHeartbeats 4000000 in
theorem own_law (l : List Cp.C) (c : Cp.C) (v : Value) (w : World) (ht : Tabs w) (hv : Kit.IsS 5 w v l.length (l.flatMap cL)) (hg : ∀ x ∈ l, GoodC x) (hc : GoodC c) (hn : l.length * 48 ≤ 140737488351232) :
    Calls Tryd.prog 9 #[v, .agg (cC c)] w fun e w' => e = .returned (.bool true) ∧ Below w.heap.size w w' := by
  have hs0 := ht.size
  have hn' : l.length * 48 ≤ 140737488355328 := by omega
  have HT := hid (fun W (h : Below w.heap.size w W) => ht.below h ht.size)
  have HV := hid (fun W (h : Below w.heap.size w W) => hv.below h (Nat.le_refl _))
  have HA := hid (fun W (h : Below w.heap.size w W) => add_any l c v W (HT.out W h) (HV.out W h) (fun x hx => (hg x hx).s) hc.s hn')
  have HB := hid (fun u W (h : Kit.IsS 5 W u l.length (l.flatMap cL)) => radd_any l c u W h (fun x hx => ⟨(hg x hx).s, (hg x hx).n⟩) hc.s hc.n hn')
  have HG := hid (fun x (h : x ∈ l) => (hg x h).s)
  have HCl := hid (fun W (h : Below w.heap.size w W) => cclone_any l v W (HV.out W h) hn')
  obtain ⟨a, cap, rfl⟩ := hv.len
  obtain ⟨t, s, n, ca, cb⟩ := c
  unfold cC at HA HB ⊢
  dsimp only at HA HB ⊢
  clear ht hv hg hc hn hn'
  go_enter Tryd.func9, Tryd.ntmps9
  go_wp2_with (first
    | (go_at_call 34; refine (HCl.out _ (by repeat' first | with_reducible exact Below.refl _ _ | with_reducible assumption | with_reducible refine belows_drewN ?_ _ | with_reducible refine Below.drew ?_ | with_reducible refine Below.setCell ?_ ?_ _ | with_reducible refine Below.alloc ?_ ?_ _ | omega | (simp; done) | (simp; omega))).mono ?_; rintro e w2 ⟨v2, rfl, o2, hb2⟩; obtain ⟨a2, cap2, rfl⟩ := own_form o2; have HS2 := hid (Kit.isS_of_owns o2 (by have := o2.1; have hh := (HV.out w (Below.refl _ w)).2.1; exact hh)); have B2 := belows (B := w.heap.size) (a := w) ((Below.refl _ w).alloc (Nat.le_refl _) _) hb2 (by simp); have bx2 := (BX.new w #[.int .i64 t, .string s, .int .i64 n, .int .i64 ca, .int .i64 cb] 46).below hb2 (by simp); have c0 := bx2.cell 0; have c1 := bx2.cell 1; have c2 := bx2.cell 2; have c3 := bx2.cell 3; have c4 := bx2.cell 4; simp at c0 c1 c2 c3 c4; clear o2 hb2)
    | (go_at_call 29; refine (HA.out _ B2).mono ?_; rintro e w3 ⟨m, i, er, v3, hA, rfl, o3, hb3⟩; obtain ⟨a3, cap3, rfl⟩ := own_form o3; have hml := ad_len hA; have HAd := hid hA; clear hA; obtain ⟨g, hg, hag, hcl, hfz⟩ := own_spots o3 hb3.size; have HCg := hid hcl; have HFg := hid hfz; have HB3 := hid hb3; clear hcl hfz hb3 o3))
  have hb3z := HB3.out.size
  go_loopw [33] (fun i wr => ∃ k : Nat, k ≤ m.length ∧ i = .int .i64 k ∧ Hid (∀ j, j < m.length * 5 → ∃ x, wr.cell? ⟨g, j, none⟩ = some x) ∧ Hid (∀ j, wr.frozen? ⟨g, j, none⟩ = false) ∧ Below w2.heap.size w2 wr) (fun i _ => m.length - (intOf i).toNat)
  case atStart => exact ⟨0, by omega, rfl, HCg, HFg, HB3.out⟩
  case round =>
    obtain ⟨k, hk, rfl, hcl, hfr, hbl⟩ := hrel
    have hbz := hbl.size
    by_cases hlt : k < m.length
    · have hag' := hag (by omega)
      subst hag'
      obtain ⟨x, hx⟩ := hcl.out (k * 5) (by omega)
      have hf := hfr.out (k * 5)
      have hki : (k : Int) < m.length := by omega
      clear hag
      go_wp2
      go_roundw
      case rel => exact ⟨k + 1, by omega, by go_num, spot_kept hcl.out, fun j => by rw [World.frozen?_setCell]; exact hfr.out j, (by repeat' first | with_reducible exact Below.refl _ _ | with_reducible assumption | with_reducible refine belows_drewN ?_ _ | with_reducible refine Below.drew ?_ | with_reducible refine Below.setCell ?_ ?_ _ | with_reducible refine Below.alloc ?_ ?_ _ | omega | (simp; done) | (simp; omega))⟩
      case measure => simp [intOf]; omega
    · obtain rfl : k = m.length := by omega
      have B4 := belows B2 hbl B2.size
      have bx4 := bx2.below hbl bx2.sz
      have HS4 := hid (HS2.out.below hbl (Nat.le_refl _))
      have d0 := bx4.cell 0
      have d1 := bx4.cell 1
      have d2 := bx4.cell 2
      have d3 := bx4.cell 3
      have d4 := bx4.cell 4
      simp at d0 d1 d2 d3 d4
      obtain ⟨w4, rfl⟩ : ∃ w4 : World, w4 = wr := ⟨_, rfl⟩
      clear hag hcl hfr hg hbl HCg HFg HB3 hb3z HS2
      go_wp2_with (first
        | (go_at_call 14; refine (put_any l _ _ (HT.out _ B4) (HV.out _ B4) HG.out).mono ?_; intro e w5 hp; obtain ⟨e5, v5, hck, rfl, hi5, hb5⟩ := put_out hp; have hbs := bs_of_is hi5 (by unfold outB; split; exact byt_putB _; exact fun z hz => by cases hz); obtain ⟨a5, cap5, rfl⟩ := hi5.len; have HBs := hid hbs; have B5 := belows B4 hb5 B4.size; have bx5 := bx4.below hb5 bx4.sz; have HS5 := hid (HS4.out.below hb5 (Nat.le_refl _)); clear hp hck hi5 hbs hb5)
        | (go_at_call 10; refine (take_any _ _ _ (HT.out _ B5) HBs.out).mono ?_; rintro e w6 ⟨v6, rfl, o6, hb6⟩; have htl := tkOut_len (bsOf (outB l e5)); obtain ⟨a6, cap6, rfl⟩ := own_form o6; generalize (tkOut (bsOf (outB l e5))).1 = m6 at *; obtain ⟨q, hq, haq, hcl, hfz⟩ := own_spots o6 hb6.size; have HCq := hid hcl; have HFq := hid hfz; have HB6 := hid hb6; clear hcl hfz hb6 o6))
      have hb6z := HB6.out.size
      go_loopw [54] (fun i wr => ∃ k : Nat, k ≤ m6.length ∧ i = .int .i64 k ∧ Hid (∀ j, j < m6.length * 5 → ∃ x, wr.cell? ⟨q, j, none⟩ = some x) ∧ Hid (∀ j, wr.frozen? ⟨q, j, none⟩ = false) ∧ Below w5.heap.size w5 wr) (fun i _ => m6.length - (intOf i).toNat)
      case atStart => exact ⟨0, by omega, rfl, HCq, HFq, HB6.out⟩
      case round =>
        obtain ⟨k, hk, rfl, hcl, hfr, hbl⟩ := hrel
        have hbz := hbl.size
        by_cases hlt : k < m6.length
        · have haq' := haq (by omega)
          subst haq'
          obtain ⟨x, hx⟩ := hcl.out (k * 5) (by omega)
          have hf := hfr.out (k * 5)
          have hki : (k : Int) < m6.length := by omega
          clear haq
          go_wp2
          go_roundw
          case rel => exact ⟨k + 1, by omega, by go_num, spot_kept hcl.out, fun j => by rw [World.frozen?_setCell]; exact hfr.out j, (by repeat' first | with_reducible exact Below.refl _ _ | with_reducible assumption | with_reducible refine belows_drewN ?_ _ | with_reducible refine Below.drew ?_ | with_reducible refine Below.setCell ?_ ?_ _ | with_reducible refine Below.alloc ?_ ?_ _ | omega | (simp; done) | (simp; omega))⟩
          case measure => simp [intOf]; omega
        · obtain rfl : k = m6.length := by omega
          have B7 := belows B5 hbl B5.size
          have bx7 := bx5.below hbl bx5.sz
          have HS7 := hid (HS5.out.below hbl (Nat.le_refl _))
          have f0 := bx7.cell 0
          have f1 := bx7.cell 1
          have f2 := bx7.cell 2
          have f3 := bx7.cell 3
          have f4 := bx7.cell 4
          simp at f0 f1 f2 f3 f4
          obtain ⟨w7, rfl⟩ : ∃ w7 : World, w7 = wr := ⟨_, rfl⟩
          clear haq hcl hfr hq hbl HCq HFq HB6 hb6z HS5 HS4
          go_wp2_with (first
            | (go_at_call 29; refine (HA.out _ B7).mono ?_; rintro e w8 ⟨m8, i8, er8, v8, hA, rfl, o8, hb8⟩; obtain ⟨rfl, rfl, rfl⟩ := AdIs.det hA HAd.out; obtain ⟨a8, cap8, rfl⟩ := own_form o8; have HS8 := hid (Kit.isS_of_owns o8 (by omega)); have B8 := belows B7 hb8 B7.size; have bx8 := bx7.below hb8 bx7.sz; have HW8 := hid (HS7.out.below hb8 (Nat.le_refl _)); have g0 := bx8.cell 0; have g1 := bx8.cell 1; have g2 := bx8.cell 2; have g3 := bx8.cell 3; have g4 := bx8.cell 4; simp at g0 g1 g2 g3 g4; clear hA o8 hb8)
            | (go_at_call 30; refine (HB.out _ _ HW8.out).mono ?_; rintro e w9 ⟨m9, i9, er9, v9, hA, rfl, o9, hb9⟩; obtain ⟨rfl, rfl, rfl⟩ := AdIs.det hA HAd.out; obtain ⟨a9, cap9, rfl⟩ := own_form o9; have HS9 := hid (Kit.isS_of_owns o9 (by omega)); have B9 := belows B8 hb9 B8.size; have HW9 := hid (HW8.out.below hb9 (Nat.le_refl _)); have HX9 := hid (HS8.out.below hb9 (Nat.le_refl _)); clear hA o9 hb9)
            | (go_at_call 12; refine (live_any _ (HT.out _ B9)).mono ?_; rintro e wa ⟨rfl, hba⟩; have Ba := belows B9 hba B9.size; have HWa := hid (HW9.out.below hba (Nat.le_refl _)); have HXa := hid (HX9.out.below hba (Nat.le_refl _)); have HYa := hid (HS9.out.below hba (Nat.le_refl _)); clear hba)
            | (go_at_call 33; have _g := HXb; refine (equal_any _ _ _ _ HXb.out HYb.out).mono ?_; rintro e wc ⟨rfl, hbc⟩; have Bc := belows Bb hbc Bb.size)
            | (go_at_call 33; refine (equal_any l _ _ _ (HV.out _ Ba) HWa.out).mono ?_; rintro e wb ⟨rfl, hbb⟩; have Bb := belows Ba hbb Ba.size; have HXb := hid (HXa.out.below hbb (Nat.le_refl _)); have HYb := hid (HYa.out.below hbb (Nat.le_refl _)); clear hbb))
          go_ret
          exact ⟨rfl, Bc⟩
end Go.Proofs.YtljbcclfafndmaaDoor
