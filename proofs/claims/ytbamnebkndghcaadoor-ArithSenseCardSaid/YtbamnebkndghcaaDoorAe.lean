/- The table of conditions; find, Cond, Not, Swap: both sides. -/
import Derived.Test.YtbamnebkndghcaaDoorAd
namespace Go.Proofs.YtbamnebkndghcaaDoor
open Go.RowKit
/-- What the table says of a condition: of an a below b, the same, above; turned over; turned round. -/
def cd (k : Nat) : Bool × Bool × Bool × Int × Int :=
  match k with
  | 1 => (false, true, false, 2, 1)
  | 2 => (true, false, true, 1, 2)
  | 3 => (true, false, false, 4, 5)
  | 4 => (false, true, true, 3, 6)
  | 5 => (false, false, true, 6, 3)
  | 6 => (true, true, false, 5, 4)
  | _ => (false, false, false, 0, 0)
def cdCell (k j : Nat) : Value :=
  match j with
  | 0 => .bool (cd k).1
  | 1 => .bool (cd k).2.1
  | 2 => .bool (cd k).2.2.1
  | 3 => .int .i64 (cd k).2.2.2.1
  | _ => .int .i64 (cd k).2.2.2.2
structure Tabs (w : World) : Prop where
  size : 0 < w.heap.size
  row : ∀ k, k < 7 → ∀ j, j < 5 → w.cell? ⟨0, k * 5 + j, none⟩ = some (cdCell k j)
theorem Tabs.below {B : Nat} {w w' : World} (h : Tabs w) (hb : Below B w w') (hB : 0 < B) : Tabs w' :=
  ⟨Nat.lt_of_lt_of_le h.size hb.size, fun k hk j hj => (hb.cell (p := ⟨0, k * 5 + j, none⟩) (by simp; omega)).trans (h.row k hk j hj)⟩
/-- The condition's place in the table. -/
def cix (c : Int) : Nat := if 0 ≤ c ∧ c < 7 then c.toNat else 0
def cdV (k : Nat) : Value := .agg #[cdCell k 0, cdCell k 1, cdCell k 2, cdCell k 3, cdCell k 4]
set_option maxRecDepth 100000
theorem find_at (k : Nat) (hk : k < 7) (w : World) (ht : Tabs w) : Calls Tryd.prog 16 #[.int .i64 k] w fun e w' => e = .returned (cdV k) ∧ Below w.heap.size w w' := by
  have h0 := ht.row k hk 0 (by decide)
  have h1 := ht.row k hk 1 (by decide)
  have h2 := ht.row k hk 2 (by decide)
  have h3 := ht.row k hk 3 (by decide)
  have h4 := ht.row k hk 4 (by decide)
  have hs := ht.size
  simp only [Nat.add_zero] at h0
  unfold cdV
  have e0 : ∃ b, cdCell k 0 = .bool b := ⟨_, rfl⟩
  have e1 : ∃ b, cdCell k 1 = .bool b := ⟨_, rfl⟩
  have e2 : ∃ b, cdCell k 2 = .bool b := ⟨_, rfl⟩
  have e3 : ∃ b, cdCell k 3 = .int .i64 b := ⟨_, rfl⟩
  have e4 : ∃ b, cdCell k 4 = .int .i64 b := ⟨_, rfl⟩
  obtain ⟨b0, e0⟩ := e0
  obtain ⟨b1, e1⟩ := e1
  obtain ⟨b2, e2⟩ := e2
  obtain ⟨b3, e3⟩ := e3
  obtain ⟨b4, e4⟩ := e4
  simp only [e0, e1, e2, e3, e4] at *
  clear e0 e1 e2 e3 e4 ht
  have hc : decide ((k : Int) < 0) = false := by simp
  have hd : decide (7 ≤ (k : Int)) = false := by simp; omega
  go_enter Tryd.func16, Tryd.ntmps16
  go_wp2
  exact bodyPost_ret (v := .agg #[.bool b0, .bool b1, .bool b2, .int .i64 b3, .int .i64 b4]) (by simp [results, Tryd.results16, go_sem]) rfl ⟨rfl, (by repeat' first | with_reducible exact Below.refl _ _ | with_reducible assumption | with_reducible refine belows_drewN ?_ _ | with_reducible refine Below.drew ?_ | with_reducible refine Below.setCell ?_ ?_ _ | with_reducible refine Below.alloc ?_ ?_ _ | omega | (simp; done) | (simp; omega))⟩
theorem cd_out (c : Int) (h : ¬ (0 ≤ c ∧ c < 7)) : cix c = 0 := by unfold cix; rw [if_neg h]
theorem find_any (c : Int) (w : World) (ht : Tabs w) : Calls Tryd.prog 16 #[.int .i64 c] w fun e w' => e = .returned (cdV (cix c)) ∧ Below w.heap.size w w' := by
  by_cases h : 0 ≤ c ∧ c < 7
  · obtain ⟨k, rfl⟩ := Int.eq_ofNat_of_zero_le h.1
    have hx : cix (k : Int) = k := by unfold cix; rw [if_pos h]; omega
    rw [hx]
    exact find_at k (by omega) w ht
  · rw [cd_out c h]
    have h0 := ht.row 0 (by decide) 0 (by decide)
    have h1 := ht.row 0 (by decide) 1 (by decide)
    have h2 := ht.row 0 (by decide) 2 (by decide)
    have h3 := ht.row 0 (by decide) 3 (by decide)
    have h4 := ht.row 0 (by decide) 4 (by decide)
    have hs := ht.size
    simp only [Nat.add_zero, Nat.zero_mul, Nat.zero_add, cdCell, cd] at h0 h1 h2 h3 h4
    simp only [cdV, cdCell, cd]
    clear ht
    by_cases hc : c < 0
    · go_enter Tryd.func16, Tryd.ntmps16
      go_wp2
      exact bodyPost_ret (v := .agg #[.bool false, .bool false, .bool false, .int .i64 0, .int .i64 0]) (by simp [results, Tryd.results16, go_sem]) rfl ⟨rfl, (by repeat' first | with_reducible exact Below.refl _ _ | with_reducible assumption | with_reducible refine belows_drewN ?_ _ | with_reducible refine Below.drew ?_ | with_reducible refine Below.setCell ?_ ?_ _ | with_reducible refine Below.alloc ?_ ?_ _ | omega | (simp; done) | (simp; omega))⟩
    · have hd : 7 ≤ c := by omega
      go_enter Tryd.func16, Tryd.ntmps16
      go_wp2
      exact bodyPost_ret (v := .agg #[.bool false, .bool false, .bool false, .int .i64 0, .int .i64 0]) (by simp [results, Tryd.results16, go_sem]) rfl ⟨rfl, (by repeat' first | with_reducible exact Below.refl _ _ | with_reducible assumption | with_reducible refine belows_drewN ?_ _ | with_reducible refine Below.drew ?_ | with_reducible refine Below.setCell ?_ ?_ _ | with_reducible refine Below.alloc ?_ ?_ _ | omega | (simp; done) | (simp; omega))⟩
end Go.Proofs.YtbamnebkndghcaaDoor
