/- Contracts of cmp.Less and slices.IsSorted at ints. -/
import Derived.Test.YtknacnbicmafjaaDoorOpT
namespace Go.Proofs.YtknacnbicmafjaaDoor
open Go.RowKit

set_option maxRecDepth 100000 in
theorem less_any (a b : Int) (w : World) : Calls Tryd.prog 51 #[.int .i64 a, .int .i64 b] w fun e w' => e = .returned (.bool (decide (a < b))) ∧ w' = w := by
  have h1 : (a != a) = false := by simp
  have h2 : (b != b) = false := by simp
  go_enter Tryd.func51, Tryd.ntmps51
  go_wp2
  go_ret
  exact ⟨by simp, rfl⟩
theorem less_no (a b : Int) (w : World) (h : ¬ a < b) : Calls Tryd.prog 51 #[.int .i64 a, .int .i64 b] w fun e w' => e = .returned (.bool false) ∧ w' = w := by
  have := less_any a b w
  rwa [decide_eq_false h] at this
theorem num_at {w : World} {v : Value} {ns : List Nat} (h : Kit.IsS 1 w v ns.length (Kit.natVals ns)) {k n : Nat} (hk : ns[k]? = some n) :
    ∃ b o cap, v = .slice (some ⟨b, o, none⟩) ns.length cap ∧ b < w.heap.size ∧ w.cell? ⟨b, o + k, none⟩ = some (.int .i64 n) := by
  have hlt : k < ns.length := by rw [List.getElem?_eq_some_iff] at hk; exact hk.1
  obtain ⟨b, o, cap, hv, -, hb, hc⟩ := h.some (by omega)
  exact ⟨b, o, cap, hv, hb, hc k _ (Kit.natVals_at hk)⟩
set_option maxRecDepth 100000 in
theorem sorted_yes (ns : List Nat) (v : Value) (w : World) (hl : Kit.IsS 1 w v ns.length (Kit.natVals ns)) (hs : ∀ i a b, ns[i]? = some a → ns[i + 1]? = some b → a ≤ b) :
    Calls Tryd.prog 35 #[v] w fun e w' => e = .returned (.bool true) ∧ Below w.heap.size w w' := by
  have HL := hid hl
  have HS := hid hs
  have hn := hl.2.1
  obtain ⟨a, cap, hv⟩ := hl.len
  subst hv
  clear hl hs
  go_enter Tryd.func35, Tryd.ntmps35
  go_wp2
  go_loopw [3] (fun i wr => ∃ z : Int, -1 ≤ z ∧ z < ns.length ∧ i = .int .i64 z ∧ Below w.heap.size w wr) (fun i _ => (intOf i).toNat)
  case atStart => exact ⟨_, by omega, by omega, rfl, (by repeat' first | with_reducible exact Below.refl _ _ | with_reducible assumption | with_reducible refine belows_drewN ?_ _ | with_reducible refine Below.drew ?_ | with_reducible refine Below.setCell ?_ ?_ _ | with_reducible refine Below.alloc ?_ ?_ _ | omega | (simp; done) | (simp; omega))⟩
  case round =>
    obtain ⟨z, hz0, hz1, rfl, hbl⟩ := hrel
    by_cases hlt : 0 < z
    · obtain ⟨j, rfl⟩ : ∃ j : Nat, z = (j : Int) + 1 := ⟨(z - 1).toNat, by omega⟩
      obtain ⟨n1, h1⟩ : ∃ n, ns[j]? = some n := ⟨ns[j], List.getElem?_eq_getElem (by omega)⟩
      obtain ⟨n2, h2⟩ : ∃ n, ns[j + 1]? = some n := ⟨ns[j + 1], List.getElem?_eq_getElem (by omega)⟩
      obtain ⟨b, o, cap', hv, hb, c1⟩ := num_at (HL.out.below hbl (Nat.le_refl _)) h1
      obtain ⟨rfl, -, rfl⟩ := Value.slice.inj hv
      obtain ⟨b', o', cap', hv', hb', c2⟩ := num_at (HL.out.below hbl (Nat.le_refl _)) h2
      obtain ⟨e1, -, rfl⟩ := Value.slice.inj hv'
      obtain ⟨rfl, rfl, -⟩ := Addr.mk.inj (Option.some.inj e1)
      have hle := HS.out j n1 n2 h1 h2
      have HLess := hid (fun W => less_no n2 n1 W (by omega))
      clear h1 h2 hv hv' e1 hle
      go_wp2
      go_quiet ((go_at_call 51; exact Calls.quiet_of_same (HLess.out _)))
      go_wp2
      go_roundw
      case rel => exact ⟨j, by omega, by omega, rfl, (by repeat' first | with_reducible exact Below.refl _ _ | with_reducible assumption | with_reducible refine belows_drewN ?_ _ | with_reducible refine Below.drew ?_ | with_reducible refine Below.setCell ?_ ?_ _ | with_reducible refine Below.alloc ?_ ?_ _ | omega | (simp; done) | (simp; omega))⟩
      case measure => simp [intOf]
    · go_wp2
      go_ret
      exact ⟨rfl, (by repeat' first | with_reducible exact Below.refl _ _ | with_reducible assumption | with_reducible refine belows_drewN ?_ _ | with_reducible refine Below.drew ?_ | with_reducible refine Below.setCell ?_ ?_ _ | with_reducible refine Below.alloc ?_ ?_ _ | omega | (simp; done) | (simp; omega))⟩
end Go.Proofs.YtknacnbicmafjaaDoor
