/- Contract of Slots. -/
import Derived.Test.YthhjenmgcbmphaaDoorMe
namespace Go.Proofs.YthhjenmgcbmphaaDoor
open Go.RowKit

theorem tyC_len (y : Ds.Ty) : (tyC y).length = 2 := rfl
theorem ty_at {w : World} {v : Value} {l : List Ds.Ty} (h : Kit.IsS 2 w v l.length (l.flatMap tyC)) {k : Nat} {x : Ds.Ty} (hx : l[k]? = some x) :
    ∃ b o cap, v = .slice (some ⟨b, o, none⟩) l.length cap ∧ b < w.heap.size ∧ w.cell? ⟨b, o + k * 2, none⟩ = some (.int .i64 x.1) ∧ w.cell? ⟨b, o + k * 2 + 1, none⟩ = some (.string ⟨x.2.toArray⟩) := by
  have hk : k < l.length := by rw [List.getElem?_eq_some_iff] at hx; exact hx.1
  obtain ⟨b, o, cap, hv, -, hlt, hc⟩ := h.some (by omega)
  have f := fun j hj => Kit.flat_at tyC_len hx j hj
  refine ⟨b, o, cap, hv, hlt, ?_, ?_⟩
  · exact hc (k * 2 + 0) _ (f 0 (by omega))
  · exact hc (k * 2 + 1) _ (f 1 (by omega))
def longs (l : List Ds.Ty) : Nat := (l.filter fun y => y.1 == 2).length
theorem longs_le (l : List Ds.Ty) : longs l ≤ l.length := List.length_filter_le _ _
theorem longs_step {l : List Ds.Ty} {k : Nat} {x : Ds.Ty} (h : l[k]? = some x) : longs (l.take (k + 1)) = longs (l.take k) + if x.1 == 2 then 1 else 0 := by
  unfold longs
  rw [List.take_add_one, h, List.filter_append, List.length_append]
  congr 1
  simp only [Option.toList_some, List.filter_cons, List.filter_nil]
  split <;> rfl
def slotsOf (l : List Ds.Ty) : Int := l.length + longs l
set_option maxRecDepth 100000 in
set_option maxHeartbeats 400000 in
theorem slots_any (l : List Ds.Ty) (v : Value) (w : World) (hv : Kit.IsS 2 w v l.length (l.flatMap tyC)) :
    Calls Tryd.prog 19 #[v] w fun e w' => e = .returned (.int .i64 (slotsOf l)) ∧ Below w.heap.size w w' := by
  have HV := hid hv
  obtain ⟨a, cap, hv2⟩ := hv.len
  subst hv2
  have hlen := hv.2.1
  clear hv
  go_enter Tryd.func19, Tryd.ntmps19
  go_wp2
  go_loopw [3, 10] (fun n i wr => ∃ k : Nat, k ≤ l.length ∧ i = .int .i64 k ∧ n = .int .i64 ((l.length : Int) + longs (l.take k)) ∧ Below w.heap.size w wr) (fun _ i _ => l.length - (intOf i).toNat)
  case atStart => exact ⟨0, by omega, rfl, rfl, (by repeat' first | with_reducible exact Below.refl _ _ | with_reducible assumption | with_reducible refine belows_drewN ?_ _ | with_reducible refine Below.drew ?_ | with_reducible refine Below.setCell ?_ ?_ _ | with_reducible refine Below.alloc ?_ ?_ _ | omega | (simp; done) | (simp; omega))⟩
  case round =>
    obtain ⟨k, hk, rfl, rfl, hbl⟩ := hrel
    have hbz := hbl.size
    by_cases hlt : k < l.length
    · obtain ⟨x, hx⟩ : ∃ x, l[k]? = some x := ⟨l[k], List.getElem?_eq_getElem hlt⟩
      obtain ⟨b, o, cap', hv, hb, c0, c1⟩ := ty_at (HV.out.below hbl (Nat.le_refl _)) hx
      obtain ⟨rfl, -, rfl⟩ := Value.slice.inj hv
      have HStep := hid (longs_step hx)
      have hlg := longs_le (l.take k)
      rw [List.length_take] at hlg
      obtain ⟨c, hc⟩ : ∃ c, c = longs (l.take k) := ⟨_, rfl⟩
      rw [← hc] at hlg HStep ⊢
      obtain ⟨xk, xm⟩ := x
      dsimp only at c0 c1 HStep
      have hlt' : (k : Int) < l.length := by omega
      clear hx hv hc
      by_cases h2 : xk = 2
      · subst h2
        have HS := hid (show longs (l.take (k + 1)) = c + 1 from HStep.out)
        clear HStep
        go_wp2
        go_roundw
        case rel => exact ⟨k + 1, by omega, by go_num, by rw [HS.out]; go_num, (by repeat' first | with_reducible exact Below.refl _ _ | with_reducible assumption | with_reducible refine belows_drewN ?_ _ | with_reducible refine Below.drew ?_ | with_reducible refine Below.setCell ?_ ?_ _ | with_reducible refine Below.alloc ?_ ?_ _ | omega | (simp; done) | (simp; omega))⟩
        case measure => simp [intOf]; omega
      · have h2' : (xk == 2) = false := by simpa using h2
        have HS0 := HStep.out
        rw [h2', if_neg (by simp)] at HS0
        have HS := hid HS0
        clear HS0
        clear HStep h2
        go_wp2
        go_roundw
        case rel => exact ⟨k + 1, by omega, by go_num, by rw [HS.out]; go_num, (by repeat' first | with_reducible exact Below.refl _ _ | with_reducible assumption | with_reducible refine belows_drewN ?_ _ | with_reducible refine Below.drew ?_ | with_reducible refine Below.setCell ?_ ?_ _ | with_reducible refine Below.alloc ?_ ?_ _ | omega | (simp; done) | (simp; omega))⟩
        case measure => simp [intOf]; omega
    · obtain rfl : k = l.length := by omega
      rw [List.take_length]
      have HS := hid (show slotsOf l = (l.length : Int) + longs l from rfl)
      go_wp2
      go_ret
      exact ⟨by rw [HS.out]; rfl, (by repeat' first | with_reducible exact Below.refl _ _ | with_reducible assumption | with_reducible refine belows_drewN ?_ _ | with_reducible refine Below.drew ?_ | with_reducible refine Below.setCell ?_ ?_ _ | with_reducible refine Below.alloc ?_ ?_ _ | omega | (simp; done) | (simp; omega))⟩
end Go.Proofs.YthhjenmgcbmphaaDoor
