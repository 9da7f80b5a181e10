/- Contracts of pair and read. -/
import Derived.Test.YtihklojiionanaaDoorOpE
import Derived.Test.YtihklojiionanaaDoorOpN
import Derived.Deep.QuietTactic
import Derived.BigQuiet
import Derived.RegionTactic
namespace Go.Proofs.YtihklojiionanaaDoor
open Go.RowKit

theorem belows_drewN {B : Nat} {a b : World} (h : Below B a b) (n : Nat) : Below B a (b.drewN n) := ⟨h.os, h.tape, h.output, h.size, h.block⟩
theorem or_bytes (c d : Nat) (hc : c < 256) (hd : d < 256) : bits .or .u16 ((c : Int) * 256) (d : Int) = ((256 * c + d : Nat) : Int) := by
  have h := u16_or_nat (c * 256) d (by omega) (by omega)
  have h2 : c * 256 ||| d = 256 * c + d := by
    have := Nat.shiftLeft_add_eq_or_of_lt (i := 8) (b := d) (by omega) c
    rw [Nat.shiftLeft_eq] at this
    simp only [Nat.reducePow] at this
    rw [← this, Nat.mul_comm]
  rw [h2] at h
  simpa using h
set_option maxRecDepth 100000 in
theorem pair_any (b o n cap c d : Nat) (w : World) (hn : 2 ≤ n) (hc8 : c < 256) (hd8 : d < 256) (hc : w.cell? ⟨b, o, none⟩ = some (.int .u8 c)) (hd : w.cell? ⟨b, o + 1, none⟩ = some (.int .u8 d)) :
    Calls Tryd.prog 52 #[.slice (some ⟨b, o, none⟩) n cap] w fun e w' => e = .returned (.int .u16 (256 * c + d : Nat)) ∧ ∃ n, w.drewN n = w' := by
  go_enter Tryd.func52, Tryd.ntmps52
  go_wp2
  go_quiet (fail)
  go_wp2
  go_ret
  exact ⟨by rw [← or_bytes c d hc8 hd8]; rfl, _, rfl⟩
def insV (x : Op1.Ins) : Value := .agg #[.int .i64 x.p, .int .i64 x.op, .int .i64 x.a, .int .i64 x.b]
set_option maxRecDepth 100000 in
theorem read_zero (op p : Int) (sv : Value) (w : World) (ht : Tabs w) (hf : Op1.formOf op = 0) :
    Calls Tryd.prog 45 #[.int .i64 op, .int .i64 p, sv] w fun e w' => e = .returned (insV ⟨p, op, 0, 0⟩) ∧ Below w.heap.size w w' := by
  have hform := fun W (h : Below w.heap.size w W) => form_any op W (ht.below h ht.size)
  unfold isV at hform
  rw [hf] at hform
  generalize Op1.isOp op = is at *
  have H := hid hform
  clear hform hf ht
  unfold insV
  go_enter Tryd.func45, Tryd.ntmps45
  go_wp2_with (go_at_call 10; refine (H.out _ (by repeat' first | with_reducible exact Below.refl _ _ | with_reducible assumption | with_reducible refine belows_drewN ?_ _ | with_reducible refine Below.drew ?_ | with_reducible refine Below.setCell ?_ ?_ _ | with_reducible refine Below.alloc ?_ ?_ _ | omega | (simp; done) | (simp; omega))).mono ?_; rintro e w' ⟨rfl, rfl⟩)
  exact bodyPost_ret (v := .agg #[.int .i64 p, .int .i64 op, .int .i64 0, .int .i64 0]) (by simp [results, Tryd.results45, go_sem]) rfl ⟨rfl, (by repeat' first | with_reducible exact Below.refl _ _ | with_reducible assumption | with_reducible refine belows_drewN ?_ _ | with_reducible refine Below.drew ?_ | with_reducible refine Below.setCell ?_ ?_ _ | with_reducible refine Below.alloc ?_ ?_ _ | omega | (simp; done) | (simp; omega))⟩
theorem wrap_i8 (c : Nat) (h : c < 256) : IntKind.i8.wrap (c : Int) = Op1.s8 c := by
  unfold Op1.s8
  by_cases h2 : 128 ≤ c
  · rw [if_pos h2]; simp [IntKind.wrap, IntKind.bits, IntKind.signed]; omega
  · rw [if_neg h2]; simp [IntKind.wrap, IntKind.bits, IntKind.signed]; omega
theorem s8_lo (c : Nat) (h : c < 256) : -128 ≤ Op1.s8 c ∧ Op1.s8 c ≤ 127 := by unfold Op1.s8; split <;> omega
theorem s16_lo (c : Nat) (h : c < 65536) : -32768 ≤ Op1.s16 c ∧ Op1.s16 c ≤ 32767 := by unfold Op1.s16; split <;> omega
theorem wrap64_s8 (c : Nat) (h : c < 256) : wrap64 (Op1.s8 c) = Op1.s8 c := by
  have h2 := s8_lo c h
  unfold wrap64; omega
theorem wrap_i16 (c : Nat) (h : c < 65536) : IntKind.i16.wrap (c : Int) = Op1.s16 c := by
  unfold Op1.s16
  by_cases h2 : 32768 ≤ c
  · rw [if_pos h2]; simp [IntKind.wrap, IntKind.bits, IntKind.signed]; omega
  · rw [if_neg h2]; simp [IntKind.wrap, IntKind.bits, IntKind.signed]; omega
set_option maxRecDepth 100000 in
theorem read_one (op p : Int) (f b o n cap c : Nat) (w : World) (ht : Tabs w) (hf : Op1.formOf op = f) (hf2 : f = 1 ∨ f = 4 ∨ f = 8 ∨ f = 2) (hn : 1 ≤ n) (hc8 : c < 256) (hc : w.cell? ⟨b, o, none⟩ = some (.int .u8 c)) :
    Calls Tryd.prog 45 #[.int .i64 op, .int .i64 p, .slice (some ⟨b, o, none⟩) n cap] w fun e w' => e = .returned (insV ⟨p, op, (Op1.abOf f p c 0).1, 0⟩) ∧ Below w.heap.size w w' := by
  have hform := fun W (h : Below w.heap.size w W) => form_any op W (ht.below h ht.size)
  unfold isV at hform
  rw [hf] at hform
  generalize Op1.isOp op = is at *
  have H := hid hform
  have hlt := World.block_lt_of_cell? w _ hc
  have e2 := hid (wrap_i8 c hc8)
  have e2s := hid (wrap64_s8 c hc8)
  clear hform hf ht
  unfold insV
  rcases hf2 with rfl | rfl | rfl | rfl
  all_goals
    go_enter Tryd.func45, Tryd.ntmps45
    go_wp2_with (go_at_call 10; refine (H.out _ (by repeat' first | with_reducible exact Below.refl _ _ | with_reducible assumption | with_reducible refine belows_drewN ?_ _ | with_reducible refine Below.drew ?_ | with_reducible refine Below.setCell ?_ ?_ _ | with_reducible refine Below.alloc ?_ ?_ _ | omega | (simp; done) | (simp; omega))).mono ?_; rintro e w' ⟨rfl, rfl⟩)
    first
      | exact bodyPost_ret (v := .agg #[.int .i64 p, .int .i64 op, .int .i64 c, .int .i64 0]) (by simp [results, Tryd.results45, go_sem]) rfl ⟨rfl, (by repeat' first | with_reducible exact Below.refl _ _ | with_reducible assumption | with_reducible refine belows_drewN ?_ _ | with_reducible refine Below.drew ?_ | with_reducible refine Below.setCell ?_ ?_ _ | with_reducible refine Below.alloc ?_ ?_ _ | omega | (simp; done) | (simp; omega))⟩
      | exact bodyPost_ret (v := .agg #[.int .i64 p, .int .i64 op, .int .i64 (Op1.s8 c), .int .i64 0]) (by simp [results, Tryd.results45, go_sem, e2.out]; exact e2s.out) rfl ⟨rfl, (by repeat' first | with_reducible exact Below.refl _ _ | with_reducible assumption | with_reducible refine belows_drewN ?_ _ | with_reducible refine Below.drew ?_ | with_reducible refine Below.setCell ?_ ?_ _ | with_reducible refine Below.alloc ?_ ?_ _ | omega | (simp; done) | (simp; omega))⟩
set_option maxRecDepth 100000 in
theorem read_f3 (op p : Int) (b o n cap x : Nat) (is : Bool) (w : World)
    (H : Hid (∀ W, Below w.heap.size w W → Calls Tryd.prog 10 #[.int .i64 op] W fun e w' => e = .returned (.tuple #[.int .i64 (3 : Nat), .bool is]) ∧ W = w'))
    (HP : Hid (∀ W, Below w.heap.size w W → Calls Tryd.prog 52 #[.slice (some ⟨b, o, none⟩) n cap] W fun e w' => e = .returned (.int .u16 (x : Nat)) ∧ ∃ nq, W.drewN nq = w'))
    (hlo : -32768 ≤ IntKind.i16.wrap (x : Int)) (hhi : IntKind.i16.wrap (x : Int) ≤ 32767) :
    Calls Tryd.prog 45 #[.int .i64 op, .int .i64 p, .slice (some ⟨b, o, none⟩) n cap] w fun e w' => e = .returned (insV ⟨p, op, IntKind.i16.wrap x, 0⟩) ∧ Below w.heap.size w w' := by
  unfold insV
  go_enter Tryd.func45, Tryd.ntmps45
  go_wp2_with (first | (go_at_call 10; refine (H.out _ (by repeat' first | with_reducible exact Below.refl _ _ | with_reducible assumption | with_reducible refine belows_drewN ?_ _ | with_reducible refine Below.drew ?_ | with_reducible refine Below.setCell ?_ ?_ _ | with_reducible refine Below.alloc ?_ ?_ _ | omega | (simp; done) | (simp; omega))).mono ?_; rintro e w' ⟨rfl, rfl⟩) | (go_at_call 52; refine (HP.out _ (by repeat' first | with_reducible exact Below.refl _ _ | with_reducible assumption | with_reducible refine belows_drewN ?_ _ | with_reducible refine Below.drew ?_ | with_reducible refine Below.setCell ?_ ?_ _ | with_reducible refine Below.alloc ?_ ?_ _ | omega | (simp; done) | (simp; omega))).mono ?_; rintro e w' ⟨rfl, nq, rfl⟩))
  exact bodyPost_ret (v := .agg #[.int .i64 p, .int .i64 op, .int .i64 (IntKind.i16.wrap x), .int .i64 0]) (by simp [results, Tryd.results45, go_sem]) rfl ⟨rfl, (by repeat' first | with_reducible exact Below.refl _ _ | with_reducible assumption | with_reducible refine belows_drewN ?_ _ | with_reducible refine Below.drew ?_ | with_reducible refine Below.setCell ?_ ?_ _ | with_reducible refine Below.alloc ?_ ?_ _ | omega | (simp; done) | (simp; omega))⟩
set_option maxRecDepth 100000 in
theorem read_f5 (op p : Int) (b o n cap x : Nat) (is : Bool) (w : World)
    (H : Hid (∀ W, Below w.heap.size w W → Calls Tryd.prog 10 #[.int .i64 op] W fun e w' => e = .returned (.tuple #[.int .i64 (5 : Nat), .bool is]) ∧ W = w'))
    (hx : x < 65536) (HP : Hid (∀ W, Below w.heap.size w W → Calls Tryd.prog 52 #[.slice (some ⟨b, o, none⟩) n cap] W fun e w' => e = .returned (.int .u16 (x : Nat)) ∧ ∃ nq, W.drewN nq = w')) :
    Calls Tryd.prog 45 #[.int .i64 op, .int .i64 p, .slice (some ⟨b, o, none⟩) n cap] w fun e w' => e = .returned (insV ⟨p, op, x, 0⟩) ∧ Below w.heap.size w w' := by
  unfold insV
  go_enter Tryd.func45, Tryd.ntmps45
  go_wp2_with (first | (go_at_call 10; refine (H.out _ (by repeat' first | with_reducible exact Below.refl _ _ | with_reducible assumption | with_reducible refine belows_drewN ?_ _ | with_reducible refine Below.drew ?_ | with_reducible refine Below.setCell ?_ ?_ _ | with_reducible refine Below.alloc ?_ ?_ _ | omega | (simp; done) | (simp; omega))).mono ?_; rintro e w' ⟨rfl, rfl⟩) | (go_at_call 52; refine (HP.out _ (by repeat' first | with_reducible exact Below.refl _ _ | with_reducible assumption | with_reducible refine belows_drewN ?_ _ | with_reducible refine Below.drew ?_ | with_reducible refine Below.setCell ?_ ?_ _ | with_reducible refine Below.alloc ?_ ?_ _ | omega | (simp; done) | (simp; omega))).mono ?_; rintro e w' ⟨rfl, nq, rfl⟩))
  exact bodyPost_ret (v := .agg #[.int .i64 p, .int .i64 op, .int .i64 (x), .int .i64 0]) (by simp [results, Tryd.results45, go_sem]) rfl ⟨rfl, (by repeat' first | with_reducible exact Below.refl _ _ | with_reducible assumption | with_reducible refine belows_drewN ?_ _ | with_reducible refine Below.drew ?_ | with_reducible refine Below.setCell ?_ ?_ _ | with_reducible refine Below.alloc ?_ ?_ _ | omega | (simp; done) | (simp; omega))⟩
set_option maxRecDepth 100000 in
theorem read_f6 (op p : Int) (b o n cap x : Nat) (is : Bool) (w : World) (hp : 0 ≤ p) (hp2 : p ≤ 140737488355328)
    (H : Hid (∀ W, Below w.heap.size w W → Calls Tryd.prog 10 #[.int .i64 op] W fun e w' => e = .returned (.tuple #[.int .i64 (6 : Nat), .bool is]) ∧ W = w'))
    (HP : Hid (∀ W, Below w.heap.size w W → Calls Tryd.prog 52 #[.slice (some ⟨b, o, none⟩) n cap] W fun e w' => e = .returned (.int .u16 (x : Nat)) ∧ ∃ nq, W.drewN nq = w'))
    (hlo : -32768 ≤ IntKind.i16.wrap (x : Int)) (hhi : IntKind.i16.wrap (x : Int) ≤ 32767) :
    Calls Tryd.prog 45 #[.int .i64 op, .int .i64 p, .slice (some ⟨b, o, none⟩) n cap] w fun e w' => e = .returned (insV ⟨p, op, p + IntKind.i16.wrap x, 0⟩) ∧ Below w.heap.size w w' := by
  unfold insV
  go_enter Tryd.func45, Tryd.ntmps45
  go_wp2_with (first | (go_at_call 10; refine (H.out _ (by repeat' first | with_reducible exact Below.refl _ _ | with_reducible assumption | with_reducible refine belows_drewN ?_ _ | with_reducible refine Below.drew ?_ | with_reducible refine Below.setCell ?_ ?_ _ | with_reducible refine Below.alloc ?_ ?_ _ | omega | (simp; done) | (simp; omega))).mono ?_; rintro e w' ⟨rfl, rfl⟩) | (go_at_call 52; refine (HP.out _ (by repeat' first | with_reducible exact Below.refl _ _ | with_reducible assumption | with_reducible refine belows_drewN ?_ _ | with_reducible refine Below.drew ?_ | with_reducible refine Below.setCell ?_ ?_ _ | with_reducible refine Below.alloc ?_ ?_ _ | omega | (simp; done) | (simp; omega))).mono ?_; rintro e w' ⟨rfl, nq, rfl⟩))
  exact bodyPost_ret (v := .agg #[.int .i64 p, .int .i64 op, .int .i64 (p + IntKind.i16.wrap x), .int .i64 0]) (by simp [results, Tryd.results45, go_sem]) rfl ⟨rfl, (by repeat' first | with_reducible exact Below.refl _ _ | with_reducible assumption | with_reducible refine belows_drewN ?_ _ | with_reducible refine Below.drew ?_ | with_reducible refine Below.setCell ?_ ?_ _ | with_reducible refine Below.alloc ?_ ?_ _ | omega | (simp; done) | (simp; omega))⟩
end Go.Proofs.YtihklojiionanaaDoor
