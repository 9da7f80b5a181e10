/- Contracts of the pure functions of both sides: Form, Size, Ends, behind. -/
import Derived.Test.YtihklojiionanaaDoorOpB
import Derived.IntWalk
import Derived.Outline
namespace Go.Proofs.YtihklojiionanaaDoor
open Go.RowKit

/-- The two tables of package opcode hold what their text says. -/
structure Tabs (w : World) : Prop where
  size : 2 ≤ w.heap.size
  forms : ∀ k, k < 200 → w.cell? ⟨0, k, none⟩ = some (.int .u8 (Op1.forms.getD k 0 : Nat))
  behind : ∀ k, k < 9 → w.cell? ⟨1, k, none⟩ = some (.int .u8 (Op1.behinds.getD k 0 : Nat))
theorem hid {p : Prop} (h : p) : Hid p := h
theorem Tabs.below {B : Nat} {w w' : World} (h : Tabs w) (hb : Below B w w') (hB : 2 ≤ B) : Tabs w' :=
  ⟨Nat.le_trans h.size hb.size, fun k hk => (hb.cell (p := ⟨0, k, none⟩) (by simp; omega)).trans (h.forms k hk), fun k hk => (hb.cell (p := ⟨1, k, none⟩) (by simp; omega)).trans (h.behind k hk)⟩

def isV (op : Int) : Value := .tuple #[.int .i64 (Op1.formOf op : Nat), .bool (Op1.isOp op)]

set_option maxRecDepth 100000 in
theorem form_any (op : Int) (w : World) (ht : Tabs w) : Calls Tryd.prog 10 #[.int .i64 op] w fun e w' => e = .returned (isV op) ∧ w = w' := by
  by_cases h : 0 ≤ op ∧ op < 200
  · obtain ⟨k, rfl⟩ := Int.eq_ofNat_of_zero_le h.1
    have hk : k < 200 := by omega
    have hc := ht.forms k hk
    have hf := Op1.fm_nat k hk
    have hz9 := Op1.fm_le k
    obtain ⟨z, hz⟩ : ∃ z, z = Op1.forms.getD k 0 := ⟨_, rfl⟩
    rw [← hz] at hc hf
    have hV : isV (k : Int) = if z = 0 then .tuple #[.int .i64 0, .bool false] else .tuple #[.int .i64 ((z : Int) - 1), .bool true] := by
      unfold isV Op1.formOf Op1.isOp
      rw [hf]
      by_cases hz0 : z = 0
      · simp [hz0]
      · have : ((z - 1 : Nat) : Int) = (z : Int) - 1 := by omega
        simp [hz0, this]
    rw [hf] at hz9
    rw [hV]
    clear hf hz hV ht h
    by_cases hz0 : z = 0
    · subst hz0
      go_enter Tryd.func10, Tryd.ntmps10
      go_wp2
      all_goals go_ret2
      exact ⟨by simp, rfl⟩
    · have hzb : ((z : Int) == 0) = false := by simpa using hz0
      have hd : decide ((k : Int) < 0) = false := by simp
      have hd2 : decide (200 ≤ (k : Int)) = false := by simp; omega
      have hz1 : 0 < (z : Int) := by omega
      have hz2 : (z : Int) ≤ 9 := by omega
      go_enter Tryd.func10, Tryd.ntmps10
      go_wp2
      all_goals go_ret2
      exact ⟨by simp, rfl⟩
  · have hV : isV op = .tuple #[.int .i64 0, .bool false] := by
      unfold isV Op1.formOf Op1.isOp
      rw [Op1.fm_out op h]
      rfl
    rw [hV]
    clear hV ht
    by_cases h0 : op < 0
    all_goals
      go_enter Tryd.func10, Tryd.ntmps10
      go_wp2
      all_goals go_ret2
      all_goals exact ⟨rfl, rfl⟩

def szV (op : Int) : Value := .tuple #[.int .i64 (Op1.szOf op : Nat), .bool (Op1.isOp op)]
set_option maxRecDepth 100000 in
theorem size_any (op : Int) (w : World) (ht : Tabs w) : Calls Tryd.prog 12 #[.int .i64 op] w fun e w' => e = .returned (szV op) ∧ w = w' := by
  have hf8 := Op1.formOf_le op
  have hb := ht.behind (Op1.formOf op) (by omega)
  have hb2 : Op1.behinds.getD (Op1.formOf op) 0 ≤ 2 := (show ∀ k, k < 9 → Op1.behinds.getD k 0 ≤ 2 by decide +kernel) _ (by omega)
  have hV : szV op = if Op1.isOp op then .tuple #[.int .i64 (1 + (Op1.behinds.getD (Op1.formOf op) 0 : Nat) : Int), .bool true] else .tuple #[.int .i64 0, .bool false] := by
    unfold szV Op1.szOf Op1.bh
    cases Op1.isOp op <;> simp
  have hform := form_any op w ht
  unfold isV at hform
  rw [hV]
  generalize Op1.behinds.getD (Op1.formOf op) 0 = y at *
  generalize Op1.formOf op = x at *
  generalize Op1.isOp op = is at *
  clear hV
  have H := hid hform
  clear hform
  cases is
  all_goals
    go_enter Tryd.func12, Tryd.ntmps12
    go_wp2_with (go_at_call 10; refine H.out.mono ?_; rintro e w' ⟨rfl, rfl⟩)
    go_ret2
    exact ⟨by simp, rfl⟩
set_option maxRecDepth 100000 in
theorem ends_any (op : Int) (w : World) : Calls Tryd.prog 19 #[.int .i64 op] w fun e w' => e = .returned (.bool (Op1.endsB op)) ∧ w = w' := by
  unfold Op1.endsB
  go_enter Tryd.func19, Tryd.ntmps19
  go_wp2
  all_goals go_ret
  all_goals exact ⟨by simp [*], rfl⟩
theorem rends_any (op : Int) (w : World) : Calls Tryd.prog 20 #[.int .i64 op] w fun e w' => e = .returned (.bool (Op1.endsB op)) ∧ w = w' := by
  unfold Op1.endsB
  go_enter Tryd.func20, Tryd.ntmps20
  go_wp2
  all_goals go_ret
  all_goals exact ⟨by simp [*], rfl⟩
theorem rbehind_any (f : Nat) (w : World) (h : f ≤ 8) : Calls Tryd.prog 40 #[.int .i64 f] w fun e w' => e = .returned (.int .i64 (Op1.bh f : Nat)) ∧ w = w' := by
  have all : f = 0 ∨ f = 1 ∨ f = 2 ∨ f = 3 ∨ f = 4 ∨ f = 5 ∨ f = 6 ∨ f = 7 ∨ f = 8 := by omega
  clear h
  rcases all with rfl | rfl | rfl | rfl | rfl | rfl | rfl | rfl | rfl
  all_goals
    go_enter Tryd.func40, Tryd.ntmps40
    go_wp2
    all_goals go_ret
    all_goals exact ⟨rfl, rfl⟩
end Go.Proofs.YtihklojiionanaaDoor
