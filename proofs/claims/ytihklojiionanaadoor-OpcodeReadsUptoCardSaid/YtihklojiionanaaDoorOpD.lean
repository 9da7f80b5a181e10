/- Contracts of the document's find. -/
import Derived.Test.YtihklojiionanaaDoorOpC
namespace Go.Proofs.YtihklojiionanaaDoor
open Go.RowKit

theorem rowCells_at : ∀ (l : List (Nat × List UInt8 × Nat)) (k : Nat) (r : Nat × List UInt8 × Nat), l[k]? = some r →
    (rowCells l)[3 * k]? = some (.int .i64 (r.1 : Int)) ∧ (rowCells l)[3 * k + 1]? = some (.string ⟨r.2.1.toArray⟩) ∧ (rowCells l)[3 * k + 2]? = some (.int .i64 (r.2.2 : Int))
  | [], _, _, h => by simp at h
  | x :: l, 0, r, h => by
    simp only [List.getElem?_cons_zero, Option.some.injEq] at h
    subst h
    simp [rowCells]
  | x :: l, k + 1, r, h => by
    have := rowCells_at l k r (by simpa using h)
    have e0 : 3 * (k + 1) = 3 * k + 1 + 1 + 1 := by omega
    have e1 : 3 * (k + 1) + 1 = 3 * k + 1 + 1 + 1 + 1 := by omega
    have e2 : 3 * (k + 1) + 2 = 3 * k + 2 + 1 + 1 + 1 := by omega
    rw [e1, e2, e0]
    simpa [rowCells] using this
theorem table_at (w : World) (k : Nat) (r : Nat × List UInt8 × Nat) (h : Op1.rows[k]? = some r) :
    (w.alloc tableObj).cell? ⟨w.heap.size, k * 3, none⟩ = some (.int .i64 (r.1 : Int)) ∧ (w.alloc tableObj).cell? ⟨w.heap.size, k * 3 + 1, none⟩ = some (.string ⟨r.2.1.toArray⟩) ∧ (w.alloc tableObj).cell? ⟨w.heap.size, k * 3 + 2, none⟩ = some (.int .i64 (r.2.2 : Int)) := by
  unfold tableObj
  rw [World.cell?_alloc_at _ _ _ _ rfl, World.cell?_alloc_at _ _ _ _ rfl, World.cell?_alloc_at _ _ _ _ rfl]
  have := rowCells_at Op1.rows k r h
  rw [Nat.mul_comm] at this
  simpa using this
def rowV (r : Nat × List UInt8 × Nat) (is : Bool) : Value := .tuple #[.agg #[.int .i64 (r.1 : Int), .string ⟨r.2.1.toArray⟩, .int .i64 (r.2.2 : Int)], .bool is]
def findV (op : Int) : Value := match Op1.rows.find? (fun r => (r.1 : Int) == op) with
  | some r => rowV r true
  | none => rowV (0, [], 0) false
theorem findV_some {op : Int} {k : Nat} {r : Nat × List UInt8 × Nat} (hr : Op1.rows[k]? = some r) (hb : ((r.1 : Int) == op) = true) (hall : ∀ j r, j < k → Op1.rows[j]? = some r → ((r.1 : Int) == op) = false) : findV op = rowV r true := by
  unfold findV
  rw [Op1.find_at hr hb hall]
theorem findV_none {op : Int} (hall : ∀ j r, j < 121 → Op1.rows[j]? = some r → ((r.1 : Int) == op) = false) : findV op = rowV (0, [], 0) false := by
  unfold findV
  rw [Op1.find_end (fun j y hj => hall j y (by have : Op1.rows.length = 121 := by kernel_rfl
                                               omega))]
set_option maxRecDepth 100000 in
theorem rfind_any (op : Int) (w : World) : Calls Tryd.prog 39 #[.int .i64 op] w fun e w' => e = .returned (findV op) ∧ Below w.heap.size w w' := by
  have hlen : Op1.rows.length = 121 := by kernel_rfl
  go_enter Tryd.func39, Tryd.ntmps39
  go_wp2_with (go_at_call 42; refine (table_any _).mono ?_; rintro e w' ⟨rfl, rfl⟩)
  go_loop [5] (fun i => ∃ k : Nat, k ≤ 121 ∧ i = .int .i64 k ∧ (∀ j r, j < k → Op1.rows[j]? = some r → ((r.1 : Int) == op) = false)) (fun i => 121 - (intOf i).toNat)
  case atStart => exact ⟨0, by omega, rfl, fun j r hj => by omega⟩
  case round =>
    obtain ⟨k, hk, rfl, hall⟩ := hrel
    have Hall := hid hall
    clear hall
    by_cases hlt : k < 121
    · obtain ⟨r, hr⟩ : ∃ r, Op1.rows[k]? = some r := ⟨Op1.rows[k]'(by omega), List.getElem?_eq_getElem (by omega)⟩
      clear hlen
      obtain ⟨h0, h1, h2⟩ := table_at (w.alloc (Obj.cells #[Value.int IntKind.i64 0, Value.string { data := #[] }, Value.int IntKind.i64 0] 61)) k r hr
      simp only [World.size_alloc] at h0 h1 h2
      have H := hid hr
      clear hr
      by_cases he : r.1 = op
      · have hb : ((r.1 : Int) == op) = true := by simpa using he
        clear he
        go_wp2
        refine bodyPost_ret (v := rowV r true) (by simp [results, Tryd.results39, go_sem, rowV]) rfl ⟨by rw [findV_some H.out hb Hall.out], ?_⟩
        exact ((Below.refl _ _).alloc (Nat.le_refl _) _).alloc (by simp) _
      · have hb : ((r.1 : Int) == op) = false := by simpa using he
        clear he
        go_wp2
        go_round
        case rel => exact ⟨k + 1, by omega, by go_num, fun j r' hj hr' => by
          by_cases hjk : j < k
          · exact Hall.out j r' hjk hr'
          · obtain rfl : j = k := by omega
            rw [H.out] at hr'
            obtain rfl := Option.some.inj hr'
            exact hb⟩
        case measure => simp [intOf]; omega
    · obtain rfl : k = 121 := by omega
      clear hlen
      go_wp2
      refine bodyPost_ret (v := rowV (0, [], 0) false) (by simp [results, Tryd.results39, go_sem, rowV]) rfl ⟨by rw [findV_none Hall.out], ?_⟩
      exact ((Below.refl _ _).alloc (Nat.le_refl _) _).alloc (by simp) _
end Go.Proofs.YtihklojiionanaaDoor
