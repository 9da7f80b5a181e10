/- Contract of slices.Equal at instructions. -/
import Derived.Test.YtihklojiionanaaDoorOpQ
import Derived.Deep.QuietTactic
import Derived.BigQuiet
namespace Go.Proofs.YtihklojiionanaaDoor
open Go.RowKit

theorem take_eq {α : Type} {l m : List α} {k : Nat} {x y : α} (hx : l[k]? = some x) (hy : m[k]? = some y) (h : l.take k = m.take k) (e : x = y) : l.take (k + 1) = m.take (k + 1) := by
  rw [List.take_add_one, List.take_add_one, h, hx, hy, e]
def sameB (l m : List Op1.Ins) : Bool := decide (l = m)
theorem sameB_no {l m : List Op1.Ins} {k : Nat} {x y : Op1.Ins} (hx : l[k]? = some x) (hy : m[k]? = some y) (e : x ≠ y) : sameB l m = false := by
  unfold sameB
  rw [decide_eq_false_iff_not]
  rintro rfl
  rw [hx] at hy
  exact e (Option.some.inj hy)
theorem sameB_len {l m : List Op1.Ins} (h : l.length ≠ m.length) : sameB l m = false := by
  unfold sameB
  rw [decide_eq_false_iff_not]
  rintro rfl
  exact h rfl
theorem sameB_yes {l m : List Op1.Ins} {k : Nat} (hl : k = l.length) (hm : k = m.length) (h : l.take k = m.take k) : sameB l m = true := by
  unfold sameB
  rw [decide_eq_true_eq]
  rwa [List.take_of_length_le (by omega), List.take_of_length_le (by omega)] at h
theorem ins_ne {xp xop xa xb yp yop ya yb : Int} (h : (⟨xp, xop, xa, xb⟩ : Op1.Ins) ≠ ⟨yp, yop, ya, yb⟩) : xp ≠ yp ∨ xp = yp ∧ xop ≠ yop ∨ xp = yp ∧ xop = yop ∧ xa ≠ ya ∨ xp = yp ∧ xop = yop ∧ xa = ya ∧ xb ≠ yb := by
  by_cases h1 : xp = yp
  · by_cases h2 : xop = yop
    · by_cases h3 : xa = ya
      · by_cases h4 : xb = yb
        · subst h1 h2 h3 h4; exact absurd rfl h
        · exact .inr (.inr (.inr ⟨h1, h2, h3, h4⟩))
      · exact .inr (.inr (.inl ⟨h1, h2, h3⟩))
    · exact .inr (.inl ⟨h1, h2⟩)
  · exact .inl h1

set_option maxRecDepth 100000 in
set_option maxHeartbeats 400000 in
theorem equalI_any (l m : List Op1.Ins) (v u : Value) (w : World) (hl : Kit.IsS 4 w v l.length (insCells l)) (hm : Kit.IsS 4 w u m.length (insCells m)) :
    Calls Tryd.prog 38 #[v, u] w fun e w' => e = .returned (.bool (sameB l m)) ∧ Below w.heap.size w w' := by
  have HL := hid hl
  have HM := hid hm
  have hn1 := hl.2.1
  have hn2 := hm.2.1
  obtain ⟨a1, cap1, hv⟩ := hl.len
  obtain ⟨a2, cap2, hu⟩ := hm.len
  subst hv hu
  clear hl hm
  by_cases hlen : l.length = m.length
  · have hb : ((l.length : Int) != (m.length : Int)) = false := by simp; omega
    have HLen := hid hlen
    have hml : m.length ≤ l.length := by omega
    have hlm : l.length ≤ m.length := by omega
    clear hlen
    go_enter Tryd.func38, Tryd.ntmps38
    go_wp2
    go_loopw [13] (fun i wr => ∃ k : Nat, k ≤ l.length ∧ i = .int .i64 k ∧ Hid (l.take k = m.take k) ∧ Below w.heap.size w wr) (fun i _ => l.length - (intOf i).toNat)
    case atStart => exact ⟨0, by omega, rfl, rfl, (by repeat' first | with_reducible exact Below.refl _ _ | with_reducible assumption | with_reducible refine belows_drewN ?_ _ | with_reducible refine Below.drew ?_ | with_reducible refine Below.setCell ?_ ?_ _ | with_reducible refine Below.alloc ?_ ?_ _ | omega | (simp; done) | (simp; omega))⟩
    case round =>
      obtain ⟨k, hk, rfl, heq, hbl⟩ := hrel
      by_cases hlt : k < l.length
      · have hltm : k < m.length := by omega
        obtain ⟨x, hx⟩ : ∃ x, l[k]? = some x := ⟨l[k], List.getElem?_eq_getElem hlt⟩
        obtain ⟨y, hy⟩ : ∃ y, m[k]? = some y := ⟨m[k], List.getElem?_eq_getElem hltm⟩
        obtain ⟨b, o, cap', hv, hb, c0, c1, c2, c3⟩ := ins_at (HL.out.below hbl (Nat.le_refl _)) hx
        obtain ⟨rfl, -, rfl⟩ := Value.slice.inj hv
        obtain ⟨b', o', cap', hv', hb', d0, d1, d2, d3⟩ := ins_at (HM.out.below hbl (Nat.le_refl _)) hy
        obtain ⟨rfl, -, rfl⟩ := Value.slice.inj hv'
        obtain ⟨xp, xop, xa, xb⟩ := x
        obtain ⟨yp, yop, ya, yb⟩ := y
        dsimp only at c0 c1 c2 c3 d0 d1 d2 d3
        have HX := hid hx
        have HY := hid hy
        clear hx hy hv hv'
        have i1 : (k : Int) < (l.length : Int) := by omega
        have i2 : (k : Int) < (m.length : Int) := by omega
        by_cases hxy : (⟨xp, xop, xa, xb⟩ : Op1.Ins) = ⟨yp, yop, ya, yb⟩
        · obtain ⟨rfl, rfl, rfl, rfl⟩ := Op1.Ins.mk.inj hxy
          clear hxy
          go_wp2
          go_quiet (fail)
          go_wp2
          go_roundw
          case rel => exact ⟨k + 1, by omega, by go_num, take_eq HX.out HY.out heq.out rfl, (by repeat' first | with_reducible exact Below.refl _ _ | with_reducible assumption | with_reducible refine belows_drewN ?_ _ | with_reducible refine Below.drew ?_ | with_reducible refine Below.setCell ?_ ?_ _ | with_reducible refine Below.alloc ?_ ?_ _ | omega | (simp; done) | (simp; omega))⟩
          case measure => simp [intOf]; omega
        · have hne := ins_ne hxy
          have hfin := sameB_no HX.out HY.out hxy
          have HF := hid hfin
          clear hfin hxy
          rcases hne with h | ⟨rfl, h⟩ | ⟨rfl, rfl, h⟩ | ⟨rfl, rfl, rfl, h⟩
          · have hq : (xp == yp) = false := by simpa using h
            clear h
            (go_wp2; go_quiet (fail); go_wp2; go_ret; exact ⟨by rw [HF.out]; rfl, (by repeat' first | with_reducible exact Below.refl _ _ | with_reducible assumption | with_reducible refine belows_drewN ?_ _ | with_reducible refine Below.drew ?_ | with_reducible refine Below.setCell ?_ ?_ _ | with_reducible refine Below.alloc ?_ ?_ _ | omega | (simp; done) | (simp; omega))⟩)
          · have hq : (xop == yop) = false := by simpa using h
            clear h
            (go_wp2; go_quiet (fail); go_wp2; go_ret; exact ⟨by rw [HF.out]; rfl, (by repeat' first | with_reducible exact Below.refl _ _ | with_reducible assumption | with_reducible refine belows_drewN ?_ _ | with_reducible refine Below.drew ?_ | with_reducible refine Below.setCell ?_ ?_ _ | with_reducible refine Below.alloc ?_ ?_ _ | omega | (simp; done) | (simp; omega))⟩)
          · have hq : (xa == ya) = false := by simpa using h
            clear h
            (go_wp2; go_quiet (fail); go_wp2; go_ret; exact ⟨by rw [HF.out]; rfl, (by repeat' first | with_reducible exact Below.refl _ _ | with_reducible assumption | with_reducible refine belows_drewN ?_ _ | with_reducible refine Below.drew ?_ | with_reducible refine Below.setCell ?_ ?_ _ | with_reducible refine Below.alloc ?_ ?_ _ | omega | (simp; done) | (simp; omega))⟩)
          · have hq : (xb == yb) = false := by simpa using h
            clear h
            (go_wp2; go_quiet (fail); go_wp2; go_ret; exact ⟨by rw [HF.out]; rfl, (by repeat' first | with_reducible exact Below.refl _ _ | with_reducible assumption | with_reducible refine belows_drewN ?_ _ | with_reducible refine Below.drew ?_ | with_reducible refine Below.setCell ?_ ?_ _ | with_reducible refine Below.alloc ?_ ?_ _ | omega | (simp; done) | (simp; omega))⟩)
      · have HF := hid (sameB_yes (l := l) (m := m) (k := k) (by omega) (by have := HLen.out; omega) heq.out)
        obtain rfl : k = l.length := by omega
        go_wp2
        go_ret
        exact ⟨by rw [HF.out]; rfl, (by repeat' first | with_reducible exact Below.refl _ _ | with_reducible assumption | with_reducible refine belows_drewN ?_ _ | with_reducible refine Below.drew ?_ | with_reducible refine Below.setCell ?_ ?_ _ | with_reducible refine Below.alloc ?_ ?_ _ | omega | (simp; done) | (simp; omega))⟩
  · have hb : ((l.length : Int) != (m.length : Int)) = true := by simp; omega
    have HF := hid (sameB_len hlen)
    clear hlen
    go_enter Tryd.func38, Tryd.ntmps38
    go_wp2
    go_ret
    exact ⟨by rw [HF.out]; rfl, (by repeat' first | with_reducible exact Below.refl _ _ | with_reducible assumption | with_reducible refine belows_drewN ?_ _ | with_reducible refine Below.drew ?_ | with_reducible refine Below.setCell ?_ ?_ _ | with_reducible refine Below.alloc ?_ ?_ _ | omega | (simp; done) | (simp; omega))⟩
end Go.Proofs.YtihklojiionanaaDoor
