/- Contract of the document's Same at any lists. -/
import Derived.Test.YthhjenmgcbmphaaDoorCr
namespace Go.Proofs.YthhjenmgcbmphaaDoor
open Go.RowKit

theorem take_eq_step {a b : List Ds.Ty} {j : Nat} {x : Ds.Ty} (h : a.take j = b.take j) (ha : a[j]? = some x) (hb : b[j]? = some x) : a.take (j + 1) = b.take (j + 1) := by
  rw [List.take_add_one, List.take_add_one, h, ha, hb]
theorem ne_at {a b : List Ds.Ty} {j : Nat} {x y : Ds.Ty} (ha : a[j]? = some x) (hb : b[j]? = some y) (hne : x ≠ y) : decide (a = b) = false := by
  rw [decide_eq_false_iff_not]
  rintro rfl
  rw [ha] at hb
  exact hne (Option.some.inj hb)
set_option maxRecDepth 100000 in
set_option maxHeartbeats 400000 in
theorem sameG_any (l l2 : List Ds.Ty) (v u : Value) (w : World) (hv : Kit.IsS 2 w v l.length (l.flatMap tyC)) (hu : Kit.IsS 2 w u l2.length (l2.flatMap tyC)) :
    Calls Tryd.prog 14 #[v, u] w fun e w' => e = .returned (.bool (decide (l = l2))) ∧ Below w.heap.size w w' := by
  by_cases hlen2 : l.length = l2.length
  · have HV := hid hv
    have HU := hid hu
    obtain ⟨a1, cap1, hv2⟩ := hv.len
    obtain ⟨a2, cap2, hu2⟩ := hu.len
    rw [← hlen2] at hu2
    subst hv2 hu2
    have hlen := hv.2.1
    obtain ⟨r, hr⟩ : ∃ r, r = decide (l = l2) := ⟨_, rfl⟩
    rw [← hr]
    have HR := hid hr
    have HL2 := hid hlen2
    clear hv hu hr hlen2
    go_enter Tryd.func14, Tryd.ntmps14
    go_wp2
    go_loopw [5] (fun i wr => ∃ k : Nat, k ≤ l.length ∧ i = .int .i64 k ∧ Hid (l.take k = l2.take k) ∧ Below w.heap.size w wr) (fun i _ => l.length - (intOf i).toNat)
    case atStart => exact ⟨0, by omega, rfl, rfl, (by repeat' first | with_reducible exact Below.refl _ _ | with_reducible assumption | with_reducible refine belows_drewN ?_ _ | with_reducible refine Below.drew ?_ | with_reducible refine Below.setCell ?_ ?_ _ | with_reducible refine Below.alloc ?_ ?_ _ | omega | (simp; done) | (simp; omega))⟩
    case round =>
      obtain ⟨k, hk, rfl, htk, hbl⟩ := hrel
      have hbz := hbl.size
      by_cases hlt : k < l.length
      · obtain ⟨x, hx⟩ : ∃ x, l[k]? = some x := ⟨l[k], List.getElem?_eq_getElem hlt⟩
        obtain ⟨y, hy⟩ : ∃ y, l2[k]? = some y := ⟨l2[k]'(by rw [← HL2.out]; exact hlt), List.getElem?_eq_getElem _⟩
        obtain ⟨b, o, cap', hv, hb, c0, c1⟩ := ty_at (HV.out.below hbl (Nat.le_refl _)) hx
        obtain ⟨rfl, -, rfl⟩ := Value.slice.inj hv
        obtain ⟨b', o', cap', hv', hb', d0, d1⟩ := ty_at (HU.out.below hbl (Nat.le_refl _)) hy
        obtain ⟨rfl, -, rfl⟩ := Value.slice.inj hv'
        have i1 : (k : Int) < (l.length : Int) := by omega
        by_cases hxy : x = y
        · subst hxy
          have hnext := hid (take_eq_step htk.out hx hy)
          obtain ⟨xk, xm⟩ := x
          dsimp only at c0 c1 d0 d1
          clear hx hy hv hv'
          go_wp2
          go_quiet (fail)
          go_wp2
          go_roundw
          case rel => exact ⟨k + 1, by omega, by go_num, hnext, (by repeat' first | with_reducible exact Below.refl _ _ | with_reducible assumption | with_reducible refine belows_drewN ?_ _ | with_reducible refine Below.drew ?_ | with_reducible refine Below.setCell ?_ ?_ _ | with_reducible refine Below.alloc ?_ ?_ _ | omega | (simp; done) | (simp; omega))⟩
          case measure => simp [intOf]; omega
        · have HF := hid (HR.out.trans (ne_at hx hy hxy))
          obtain ⟨xk, xm⟩ := x
          obtain ⟨yk, ym⟩ := y
          dsimp only at c0 c1 d0 d1
          by_cases hk2 : xk = yk
          · subst hk2
            have hm : xm ≠ ym := fun e => hxy (by rw [e])
            obtain ⟨xs, hxs⟩ : ∃ s : ByteArray, s = ⟨xm.toArray⟩ := ⟨_, rfl⟩
            obtain ⟨ys, hys⟩ : ∃ s : ByteArray, s = ⟨ym.toArray⟩ := ⟨_, rfl⟩
            have hne : ¬ xs = ys := by
              rw [hxs, hys]
              intro e
              exact hm (by have := congrArg (fun s : ByteArray => s.data.toList) e; simpa using this)
            have hne3 : (xs.toList == ys.toList) = false := by rw [beq_eq_false_iff_ne, ne_eq, ByteArray.toList_eq, ByteArray.toList_eq]; intro e; exact hne (ba_ext e)
            rw [← hxs] at c1
            rw [← hys] at d1
            clear hx hy hv hv' hxy hxs hys hm
            go_wp2
            go_quiet (fail)
            go_wp2
            go_ret
            exact ⟨by rw [HF.out]; rfl, (by repeat' first | with_reducible exact Below.refl _ _ | with_reducible assumption | with_reducible refine belows_drewN ?_ _ | with_reducible refine Below.drew ?_ | with_reducible refine Below.setCell ?_ ?_ _ | with_reducible refine Below.alloc ?_ ?_ _ | omega | (simp; done) | (simp; omega))⟩
          · clear hx hy hv hv' hxy
            go_wp2
            go_quiet (fail)
            go_wp2
            go_ret
            exact ⟨by rw [HF.out]; rfl, (by repeat' first | with_reducible exact Below.refl _ _ | with_reducible assumption | with_reducible refine belows_drewN ?_ _ | with_reducible refine Below.drew ?_ | with_reducible refine Below.setCell ?_ ?_ _ | with_reducible refine Below.alloc ?_ ?_ _ | omega | (simp; done) | (simp; omega))⟩
      · obtain rfl : k = l.length := by omega
        have HF : Hid (r = true) := by
          show r = true
          rw [HR.out, decide_eq_true_iff]
          have := htk.out
          rwa [List.take_length, HL2.out, List.take_length] at this
        go_wp2
        go_ret
        exact ⟨by rw [HF.out]; rfl, (by repeat' first | with_reducible exact Below.refl _ _ | with_reducible assumption | with_reducible refine belows_drewN ?_ _ | with_reducible refine Below.drew ?_ | with_reducible refine Below.setCell ?_ ?_ _ | with_reducible refine Below.alloc ?_ ?_ _ | omega | (simp; done) | (simp; omega))⟩
  · obtain ⟨a1, cap1, hv2⟩ := hv.len
    obtain ⟨a2, cap2, hu2⟩ := hu.len
    subst hv2 hu2
    have hd : ((l.length : Int) != (l2.length : Int)) = true := by simp; omega
    rw [decide_eq_false (fun e => hlen2 (by rw [e]))]
    clear hv hu hlen2
    go_enter Tryd.func14, Tryd.ntmps14
    go_wp2
    go_ret
    exact ⟨rfl, (by repeat' first | with_reducible exact Below.refl _ _ | with_reducible assumption | with_reducible refine belows_drewN ?_ _ | with_reducible refine Below.drew ?_ | with_reducible refine Below.setCell ?_ ?_ _ | with_reducible refine Below.alloc ?_ ?_ _ | omega | (simp; done) | (simp; omega))⟩
end Go.Proofs.YthhjenmgcbmphaaDoor
