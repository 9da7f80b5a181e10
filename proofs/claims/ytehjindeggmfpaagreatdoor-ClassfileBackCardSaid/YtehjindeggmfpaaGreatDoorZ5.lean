/- Own texts for the claim, part 5. -/
import Derived.Test.YtehjindeggmfpaaGreatDoorZ4
namespace Go.Proofs.YtehjindeggmfpaaGreatDoor.L1
open Go.RowKit

theorem belows_drewN {B : Nat} {a b : World} (h : Below B a b) (n : Nat) : Below B a (b.drewN n) := ⟨h.os, h.tape, h.output, h.size, h.block⟩
theorem or_bytes (c d : Nat) (hc : c < 256) (hd : d < 256) : bits .or .u16 ((c : Int) * 256) (d : Int) = ((256 * c + d : Nat) : Int) := by
  have h := u16_or_nat (c * 256) d (by omega) (by omega)
  have h2 : c * 256 ||| d = 256 * c + d := by
    have := Nat.shiftLeft_add_eq_or_of_lt (i := 8) (b := d) (by omega) c
    rw [Nat.shiftLeft_eq] at this
    simp only [Nat.reducePow] at this
    rw [← this, Nat.mul_comm]
  rw [h2] at h
  simpa using h
set_option maxRecDepth 100000 in
theorem pair_any (b o n cap c d : Nat) (w : World) (hn : 2 ≤ n) (hc8 : c < 256) (hd8 : d < 256) (hc : w.cell? ⟨b, o, none⟩ = some (.int .u8 c)) (hd : w.cell? ⟨b, o + 1, none⟩ = some (.int .u8 d)) :
    Calls Tryz.prog 206 #[.slice (some ⟨b, o, none⟩) n cap] w fun e w' => e = .returned (.int .u16 (256 * c + d : Nat)) ∧ ∃ n, w.drewN n = w' := by
  go_enter Tryz.func206, Tryz.ntmps206
  go_wp2
  go_quiet (fail)
  go_wp2
  go_ret
  exact ⟨by rw [← or_bytes c d hc8 hd8]; rfl, _, rfl⟩
def insV (x : Op1.Ins) : Value := .agg #[.int .i64 x.p, .int .i64 x.op, .int .i64 x.a, .int .i64 x.b]
set_option maxRecDepth 100000 in
theorem read_zero (op p : Int) (sv : Value) (w : World) (ht : Tabs w) (hf : Op1.formOf op = 0) :
    Calls Tryz.prog 193 #[.int .i64 op, .int .i64 p, sv] w fun e w' => e = .returned (insV ⟨p, op, 0, 0⟩) ∧ Below w.heap.size w w' := by
  have hform := fun W (h : Below w.heap.size w W) => form_any op W (ht.below h ht.size)
  unfold isV at hform
  rw [hf] at hform
  generalize Op1.isOp op = is at *
  have H := hid hform
  clear hform hf ht
  unfold insV
  go_enter Tryz.func193, Tryz.ntmps193
  go_wp2_with (go_at_call 205; refine (H.out _ (by repeat' first | with_reducible exact Below.refl _ _ | with_reducible assumption | with_reducible refine belows_drewN ?_ _ | with_reducible refine Below.drew ?_ | with_reducible refine Below.setCell ?_ ?_ _ | with_reducible refine Below.alloc ?_ ?_ _ | omega | (simp; done) | (simp; omega))).mono ?_; rintro e w' ⟨rfl, rfl⟩)
  exact bodyPost_ret (v := .agg #[.int .i64 p, .int .i64 op, .int .i64 0, .int .i64 0]) (by simp [results, Tryz.results193, go_sem]) rfl ⟨rfl, (by repeat' first | with_reducible exact Below.refl _ _ | with_reducible assumption | with_reducible refine belows_drewN ?_ _ | with_reducible refine Below.drew ?_ | with_reducible refine Below.setCell ?_ ?_ _ | with_reducible refine Below.alloc ?_ ?_ _ | omega | (simp; done) | (simp; omega))⟩
theorem wrap_i8 (c : Nat) (h : c < 256) : IntKind.i8.wrap (c : Int) = Op1.s8 c := by
  unfold Op1.s8
  by_cases h2 : 128 ≤ c
  · rw [if_pos h2]; simp [IntKind.wrap, IntKind.bits, IntKind.signed]; omega
  · rw [if_neg h2]; simp [IntKind.wrap, IntKind.bits, IntKind.signed]; omega
theorem s8_lo (c : Nat) (h : c < 256) : -128 ≤ Op1.s8 c ∧ Op1.s8 c ≤ 127 := by unfold Op1.s8; split <;> omega
theorem s16_lo (c : Nat) (h : c < 65536) : -32768 ≤ Op1.s16 c ∧ Op1.s16 c ≤ 32767 := by unfold Op1.s16; split <;> omega
theorem wrap64_s8 (c : Nat) (h : c < 256) : wrap64 (Op1.s8 c) = Op1.s8 c := by
  have h2 := s8_lo c h
  unfold wrap64; omega
theorem wrap_i16 (c : Nat) (h : c < 65536) : IntKind.i16.wrap (c : Int) = Op1.s16 c := by
  unfold Op1.s16
  by_cases h2 : 32768 ≤ c
  · rw [if_pos h2]; simp [IntKind.wrap, IntKind.bits, IntKind.signed]; omega
  · rw [if_neg h2]; simp [IntKind.wrap, IntKind.bits, IntKind.signed]; omega
set_option maxRecDepth 100000 in
theorem read_one (op p : Int) (f b o n cap c : Nat) (w : World) (ht : Tabs w) (hf : Op1.formOf op = f) (hf2 : f = 1 ∨ f = 4 ∨ f = 8 ∨ f = 2) (hn : 1 ≤ n) (hc8 : c < 256) (hc : w.cell? ⟨b, o, none⟩ = some (.int .u8 c)) :
    Calls Tryz.prog 193 #[.int .i64 op, .int .i64 p, .slice (some ⟨b, o, none⟩) n cap] w fun e w' => e = .returned (insV ⟨p, op, (Op1.abOf f p c 0).1, 0⟩) ∧ Below w.heap.size w w' := by
  have hform := fun W (h : Below w.heap.size w W) => form_any op W (ht.below h ht.size)
  unfold isV at hform
  rw [hf] at hform
  generalize Op1.isOp op = is at *
  have H := hid hform
  have hlt := World.block_lt_of_cell? w _ hc
  have e2 := hid (wrap_i8 c hc8)
  have e2s := hid (wrap64_s8 c hc8)
  clear hform hf ht
  unfold insV
  rcases hf2 with rfl | rfl | rfl | rfl
  all_goals
    go_enter Tryz.func193, Tryz.ntmps193
    go_wp2_with (go_at_call 205; refine (H.out _ (by repeat' first | with_reducible exact Below.refl _ _ | with_reducible assumption | with_reducible refine belows_drewN ?_ _ | with_reducible refine Below.drew ?_ | with_reducible refine Below.setCell ?_ ?_ _ | with_reducible refine Below.alloc ?_ ?_ _ | omega | (simp; done) | (simp; omega))).mono ?_; rintro e w' ⟨rfl, rfl⟩)
    first
      | exact bodyPost_ret (v := .agg #[.int .i64 p, .int .i64 op, .int .i64 c, .int .i64 0]) (by simp [results, Tryz.results193, go_sem]) rfl ⟨rfl, (by repeat' first | with_reducible exact Below.refl _ _ | with_reducible assumption | with_reducible refine belows_drewN ?_ _ | with_reducible refine Below.drew ?_ | with_reducible refine Below.setCell ?_ ?_ _ | with_reducible refine Below.alloc ?_ ?_ _ | omega | (simp; done) | (simp; omega))⟩
      | exact bodyPost_ret (v := .agg #[.int .i64 p, .int .i64 op, .int .i64 (Op1.s8 c), .int .i64 0]) (by simp [results, Tryz.results193, go_sem, e2.out]; exact e2s.out) rfl ⟨rfl, (by repeat' first | with_reducible exact Below.refl _ _ | with_reducible assumption | with_reducible refine belows_drewN ?_ _ | with_reducible refine Below.drew ?_ | with_reducible refine Below.setCell ?_ ?_ _ | with_reducible refine Below.alloc ?_ ?_ _ | omega | (simp; done) | (simp; omega))⟩
set_option maxRecDepth 100000 in
theorem read_f3 (op p : Int) (b o n cap x : Nat) (is : Bool) (w : World)
    (H : Hid (∀ W, Below w.heap.size w W → Calls Tryz.prog 205 #[.int .i64 op] W fun e w' => e = .returned (.tuple #[.int .i64 (3 : Nat), .bool is]) ∧ W = w'))
    (HP : Hid (∀ W, Below w.heap.size w W → Calls Tryz.prog 206 #[.slice (some ⟨b, o, none⟩) n cap] W fun e w' => e = .returned (.int .u16 (x : Nat)) ∧ ∃ nq, W.drewN nq = w'))
    (hlo : -32768 ≤ IntKind.i16.wrap (x : Int)) (hhi : IntKind.i16.wrap (x : Int) ≤ 32767) :
    Calls Tryz.prog 193 #[.int .i64 op, .int .i64 p, .slice (some ⟨b, o, none⟩) n cap] w fun e w' => e = .returned (insV ⟨p, op, IntKind.i16.wrap x, 0⟩) ∧ Below w.heap.size w w' := by
  unfold insV
  go_enter Tryz.func193, Tryz.ntmps193
  go_wp2_with (first | (go_at_call 205; refine (H.out _ (by repeat' first | with_reducible exact Below.refl _ _ | with_reducible assumption | with_reducible refine belows_drewN ?_ _ | with_reducible refine Below.drew ?_ | with_reducible refine Below.setCell ?_ ?_ _ | with_reducible refine Below.alloc ?_ ?_ _ | omega | (simp; done) | (simp; omega))).mono ?_; rintro e w' ⟨rfl, rfl⟩) | (go_at_call 206; refine (HP.out _ (by repeat' first | with_reducible exact Below.refl _ _ | with_reducible assumption | with_reducible refine belows_drewN ?_ _ | with_reducible refine Below.drew ?_ | with_reducible refine Below.setCell ?_ ?_ _ | with_reducible refine Below.alloc ?_ ?_ _ | omega | (simp; done) | (simp; omega))).mono ?_; rintro e w' ⟨rfl, nq, rfl⟩))
  exact bodyPost_ret (v := .agg #[.int .i64 p, .int .i64 op, .int .i64 (IntKind.i16.wrap x), .int .i64 0]) (by simp [results, Tryz.results193, go_sem]) rfl ⟨rfl, (by repeat' first | with_reducible exact Below.refl _ _ | with_reducible assumption | with_reducible refine belows_drewN ?_ _ | with_reducible refine Below.drew ?_ | with_reducible refine Below.setCell ?_ ?_ _ | with_reducible refine Below.alloc ?_ ?_ _ | omega | (simp; done) | (simp; omega))⟩
set_option maxRecDepth 100000 in
theorem read_f5 (op p : Int) (b o n cap x : Nat) (is : Bool) (w : World)
    (H : Hid (∀ W, Below w.heap.size w W → Calls Tryz.prog 205 #[.int .i64 op] W fun e w' => e = .returned (.tuple #[.int .i64 (5 : Nat), .bool is]) ∧ W = w'))
    (hx : x < 65536) (HP : Hid (∀ W, Below w.heap.size w W → Calls Tryz.prog 206 #[.slice (some ⟨b, o, none⟩) n cap] W fun e w' => e = .returned (.int .u16 (x : Nat)) ∧ ∃ nq, W.drewN nq = w')) :
    Calls Tryz.prog 193 #[.int .i64 op, .int .i64 p, .slice (some ⟨b, o, none⟩) n cap] w fun e w' => e = .returned (insV ⟨p, op, x, 0⟩) ∧ Below w.heap.size w w' := by
  unfold insV
  go_enter Tryz.func193, Tryz.ntmps193
  go_wp2_with (first | (go_at_call 205; refine (H.out _ (by repeat' first | with_reducible exact Below.refl _ _ | with_reducible assumption | with_reducible refine belows_drewN ?_ _ | with_reducible refine Below.drew ?_ | with_reducible refine Below.setCell ?_ ?_ _ | with_reducible refine Below.alloc ?_ ?_ _ | omega | (simp; done) | (simp; omega))).mono ?_; rintro e w' ⟨rfl, rfl⟩) | (go_at_call 206; refine (HP.out _ (by repeat' first | with_reducible exact Below.refl _ _ | with_reducible assumption | with_reducible refine belows_drewN ?_ _ | with_reducible refine Below.drew ?_ | with_reducible refine Below.setCell ?_ ?_ _ | with_reducible refine Below.alloc ?_ ?_ _ | omega | (simp; done) | (simp; omega))).mono ?_; rintro e w' ⟨rfl, nq, rfl⟩))
  exact bodyPost_ret (v := .agg #[.int .i64 p, .int .i64 op, .int .i64 (x), .int .i64 0]) (by simp [results, Tryz.results193, go_sem]) rfl ⟨rfl, (by repeat' first | with_reducible exact Below.refl _ _ | with_reducible assumption | with_reducible refine belows_drewN ?_ _ | with_reducible refine Below.drew ?_ | with_reducible refine Below.setCell ?_ ?_ _ | with_reducible refine Below.alloc ?_ ?_ _ | omega | (simp; done) | (simp; omega))⟩
set_option maxRecDepth 100000 in
theorem read_f6 (op p : Int) (b o n cap x : Nat) (is : Bool) (w : World) (hp : 0 ≤ p) (hp2 : p ≤ 140737488355328)
    (H : Hid (∀ W, Below w.heap.size w W → Calls Tryz.prog 205 #[.int .i64 op] W fun e w' => e = .returned (.tuple #[.int .i64 (6 : Nat), .bool is]) ∧ W = w'))
    (HP : Hid (∀ W, Below w.heap.size w W → Calls Tryz.prog 206 #[.slice (some ⟨b, o, none⟩) n cap] W fun e w' => e = .returned (.int .u16 (x : Nat)) ∧ ∃ nq, W.drewN nq = w'))
    (hlo : -32768 ≤ IntKind.i16.wrap (x : Int)) (hhi : IntKind.i16.wrap (x : Int) ≤ 32767) :
    Calls Tryz.prog 193 #[.int .i64 op, .int .i64 p, .slice (some ⟨b, o, none⟩) n cap] w fun e w' => e = .returned (insV ⟨p, op, p + IntKind.i16.wrap x, 0⟩) ∧ Below w.heap.size w w' := by
  unfold insV
  go_enter Tryz.func193, Tryz.ntmps193
  go_wp2_with (first | (go_at_call 205; refine (H.out _ (by repeat' first | with_reducible exact Below.refl _ _ | with_reducible assumption | with_reducible refine belows_drewN ?_ _ | with_reducible refine Below.drew ?_ | with_reducible refine Below.setCell ?_ ?_ _ | with_reducible refine Below.alloc ?_ ?_ _ | omega | (simp; done) | (simp; omega))).mono ?_; rintro e w' ⟨rfl, rfl⟩) | (go_at_call 206; refine (HP.out _ (by repeat' first | with_reducible exact Below.refl _ _ | with_reducible assumption | with_reducible refine belows_drewN ?_ _ | with_reducible refine Below.drew ?_ | with_reducible refine Below.setCell ?_ ?_ _ | with_reducible refine Below.alloc ?_ ?_ _ | omega | (simp; done) | (simp; omega))).mono ?_; rintro e w' ⟨rfl, nq, rfl⟩))
  exact bodyPost_ret (v := .agg #[.int .i64 p, .int .i64 op, .int .i64 (p + IntKind.i16.wrap x), .int .i64 0]) (by simp [results, Tryz.results193, go_sem]) rfl ⟨rfl, (by repeat' first | with_reducible exact Below.refl _ _ | with_reducible assumption | with_reducible refine belows_drewN ?_ _ | with_reducible refine Below.drew ?_ | with_reducible refine Below.setCell ?_ ?_ _ | with_reducible refine Below.alloc ?_ ?_ _ | omega | (simp; done) | (simp; omega))⟩
end Go.Proofs.YtehjindeggmfpaaGreatDoor.L1
namespace Go.Proofs.YtehjindeggmfpaaGreatDoor.L1
open Go.RowKit

set_option maxRecDepth 100000 in
theorem read_f7 (op p : Int) (b o n cap c d : Nat) (is : Bool) (w : World) (hn : 2 ≤ n)
    (H : Hid (∀ W, Below w.heap.size w W → Calls Tryz.prog 205 #[.int .i64 op] W fun e w' => e = .returned (.tuple #[.int .i64 (7 : Nat), .bool is]) ∧ W = w'))
    (hc : w.cell? ⟨b, o, none⟩ = some (.int .u8 c)) (hd : w.cell? ⟨b, o + 1, none⟩ = some (.int .u8 d)) (hlt : b < w.heap.size) (e1 : Hid (wrap64 (c : Int) = c)) (e2 : Hid (wrap64 (IntKind.i8.wrap (d : Int)) = IntKind.i8.wrap d)) :
    Calls Tryz.prog 193 #[.int .i64 op, .int .i64 p, .slice (some ⟨b, o, none⟩) n cap] w fun e w' => e = .returned (insV ⟨p, op, c, IntKind.i8.wrap d⟩) ∧ Below w.heap.size w w' := by
  unfold insV
  have hne : b ≠ w.heap.size + 1 := by omega
  have hne' : ¬ (w.heap.size + 1 = b) := by omega
  go_enter Tryz.func193, Tryz.ntmps193
  go_wp2_with (go_at_call 205; refine (H.out _ (by repeat' first | with_reducible exact Below.refl _ _ | with_reducible assumption | with_reducible refine belows_drewN ?_ _ | with_reducible refine Below.drew ?_ | with_reducible refine Below.setCell ?_ ?_ _ | with_reducible refine Below.alloc ?_ ?_ _ | omega | (simp; done) | (simp; omega))).mono ?_; rintro e w' ⟨rfl, rfl⟩)
  obtain ⟨W, hW⟩ : ∃ W, W = (w.alloc (Obj.cells #[.int .i64 0, .int .i64 0, .int .i64 0, .int .i64 0] 192)).alloc (Obj.cells #[.int .i64 p, .int .i64 op, .int .i64 0, .int .i64 0] 192) := ⟨_, rfl⟩
  have hb : Below w.heap.size w W := by rw [hW]; exact (by repeat' first | with_reducible exact Below.refl _ _ | with_reducible assumption | with_reducible refine belows_drewN ?_ _ | with_reducible refine Below.drew ?_ | with_reducible refine Below.setCell ?_ ?_ _ | with_reducible refine Below.alloc ?_ ?_ _ | omega | (simp; done) | (simp; omega))
  have c0 : W.cell? ⟨w.heap.size, 0, none⟩ = some (.int .i64 0) := by rw [hW]; simp [go_sem]
  have c1 : W.cell? ⟨w.heap.size, 1, none⟩ = some (.int .i64 0) := by rw [hW]; simp [go_sem]
  have c2 : W.cell? ⟨w.heap.size, 2, none⟩ = some (.int .i64 0) := by rw [hW]; simp [go_sem]
  have c3 : W.cell? ⟨w.heap.size, 3, none⟩ = some (.int .i64 0) := by rw [hW]; simp [go_sem]
  have d0 : W.cell? ⟨w.heap.size + 1, 0, none⟩ = some (.int .i64 p) := by rw [hW]; simp [go_sem]
  have d1 : W.cell? ⟨w.heap.size + 1, 1, none⟩ = some (.int .i64 op) := by rw [hW]; simp [go_sem]
  have d2 : W.cell? ⟨w.heap.size + 1, 2, none⟩ = some (.int .i64 0) := by rw [hW]; simp [go_sem]
  have d3 : W.cell? ⟨w.heap.size + 1, 3, none⟩ = some (.int .i64 0) := by rw [hW]; simp [go_sem]
  have z0 : ∀ o, W.frozen? ⟨w.heap.size, o, none⟩ = false := by intro o; rw [hW]; simp [go_sem]
  have z1 : ∀ o, W.frozen? ⟨w.heap.size + 1, o, none⟩ = false := by intro o; rw [hW]; simp [go_sem]
  have hc' : W.cell? ⟨b, o, none⟩ = some (.int .u8 c) := (hb.cell (p := ⟨b, o, none⟩) hlt).trans hc
  have hd' : W.cell? ⟨b, o + 1, none⟩ = some (.int .u8 d) := (hb.cell (p := ⟨b, o + 1, none⟩) hlt).trans hd
  rw [← hW]
  clear hW hc hd H
  go_region
  go_wp2
  exact bodyPost_ret (v := .agg #[.int .i64 p, .int .i64 op, .int .i64 c, .int .i64 (IntKind.i8.wrap d)]) (by simp [results, Tryz.results193, go_sem, c0, c1, c2, c3]; exact ⟨e1.out, e2.out⟩) rfl ⟨rfl, (by repeat' first | with_reducible exact Below.refl _ _ | with_reducible assumption | with_reducible refine belows_drewN ?_ _ | with_reducible refine Below.drew ?_ | with_reducible refine Below.setCell ?_ ?_ _ | with_reducible refine Below.alloc ?_ ?_ _ | omega | (simp; done) | (simp; omega))⟩
end Go.Proofs.YtehjindeggmfpaaGreatDoor.L1
namespace Go.Proofs.YtehjindeggmfpaaGreatDoor.L1
open Go.RowKit

/-- A value that reads as these bytes. -/
def IsB (w : World) (v : Value) (bs : List UInt8) : Prop :=
  bs.length ≤ 140737488355328 ∧ ((bs = [] ∧ ∃ a cap, v = .slice a 0 cap) ∨ (∃ b o cap, v = .slice (some ⟨b, o, none⟩) bs.length cap ∧ bs.length ≤ cap ∧ b < w.heap.size ∧ ∀ i, i < bs.length → w.cell? ⟨b, o + i, none⟩ = some (.int .u8 (Op1.at8 bs i : Nat))))
theorem IsB.below {w w' : World} {v : Value} {bs : List UInt8} (h : IsB w v bs) {B : Nat} (hb : Below B w w') (hB : w.heap.size ≤ B) : IsB w' v bs := by
  refine ⟨h.1, ?_⟩
  rcases h.2 with h | ⟨b, o, cap, hv, hl, hlt, hc⟩
  · exact .inl h
  · exact .inr ⟨b, o, cap, hv, hl, Nat.lt_of_lt_of_le hlt hb.size, fun i hi => (hb.cell (p := ⟨b, o + i, none⟩) (by simp; omega)).trans (hc i hi)⟩
theorem IsB.len {w : World} {v : Value} {bs : List UInt8} (h : IsB w v bs) : ∃ a cap, v = .slice a bs.length cap := by
  rcases h.2 with ⟨rfl, a, cap, rfl⟩ | ⟨b, o, cap, rfl, -⟩
  · exact ⟨a, cap, rfl⟩
  · exact ⟨_, cap, rfl⟩

theorem read_any (op : Int) (p : Nat) (a : Option Addr) (n cap c d : Nat) (w : World) (ht : Tabs w) (hn : n = Op1.bh (Op1.formOf op)) (hc8 : c < 256) (hd8 : d < 256) (hp2 : p ≤ 140737488355328)
    (h1 : 1 ≤ n → ∃ b o, a = some ⟨b, o, none⟩ ∧ w.cell? ⟨b, o, none⟩ = some (.int .u8 c) ∧ (2 ≤ n → w.cell? ⟨b, o + 1, none⟩ = some (.int .u8 d))) :
    Calls Tryz.prog 193 #[.int .i64 op, .int .i64 p, .slice a n cap] w fun e w' =>
      e = .returned (insV ⟨p, op, (Op1.abOf (Op1.formOf op) p c d).1, (Op1.abOf (Op1.formOf op) p c d).2⟩) ∧ Below w.heap.size w w' := by
  have hform := fun W (h : Below w.heap.size w W) => form_any op W (ht.below h ht.size)
  unfold isV at hform
  have hf8 := Op1.formOf_le op
  by_cases hf0 : Op1.formOf op = 0
  · rw [hf0]; exact read_zero op p _ w ht hf0
  · have hn1 : 1 ≤ n := by
      rw [hn]
      exact (show ∀ f, f < 9 → f ≠ 0 → 1 ≤ Op1.bh f by decide +kernel) _ (by omega) hf0
    obtain ⟨b, o, rfl, hc, h2⟩ := h1 hn1
    have hlt := World.block_lt_of_cell? w _ hc
    by_cases hs : Op1.formOf op = 1 ∨ Op1.formOf op = 4 ∨ Op1.formOf op = 8 ∨ Op1.formOf op = 2
    · have := read_one op p (Op1.formOf op) b o n cap c w ht rfl hs hn1 hc8 hc
      have e0 : Op1.abOf (Op1.formOf op) p c d = ((Op1.abOf (Op1.formOf op) p c 0).1, 0) := by
        rcases hs with h | h | h | h <;> rw [h] <;> rfl
      rw [e0]
      exact this
    · have hn2 : 2 ≤ n := by
        rw [hn]
        exact (show ∀ f, f < 9 → f ≠ 0 → ¬ (f = 1 ∨ f = 4 ∨ f = 8 ∨ f = 2) → 2 ≤ Op1.bh f by decide +kernel) _ (by omega) hf0 hs
      have hd := h2 hn2
      have hx1 : 256 * c + d < 65536 := by omega
      have e3 := wrap_i16 (256 * c + d) hx1
      have HP := hid (fun W (h : Below w.heap.size w W) => pair_any b o n cap c d W hn2 hc8 hd8 ((h.cell (p := ⟨b, o, none⟩) hlt).trans hc) ((h.cell (p := ⟨b, o + 1, none⟩) hlt).trans hd))
      have hlo : -32768 ≤ IntKind.i16.wrap ((256 * c + d : Nat) : Int) := by rw [e3]; exact (s16_lo _ hx1).1
      have hhi : IntKind.i16.wrap ((256 * c + d : Nat) : Int) ≤ 32767 := by rw [e3]; exact (s16_lo _ hx1).2
      have all : Op1.formOf op = 3 ∨ Op1.formOf op = 5 ∨ Op1.formOf op = 6 ∨ Op1.formOf op = 7 := by omega
      rcases all with h | h | h | h
      · rw [h] at hform ⊢
        have := read_f3 op p b o n cap (256 * c + d) (Op1.isOp op) w (hid hform) HP hlo hhi
        rw [e3] at this
        exact this
      · rw [h] at hform ⊢
        exact read_f5 op p b o n cap (256 * c + d) (Op1.isOp op) w (hid hform) hx1 HP
      · rw [h] at hform ⊢
        have := read_f6 op p b o n cap (256 * c + d) (Op1.isOp op) w (by omega) (by omega) (hid hform) HP hlo hhi
        rw [e3] at this
        exact this
      · rw [h] at hform ⊢
        have e8 := wrap_i8 d hd8
        have := read_f7 op p b o n cap c d (Op1.isOp op) w hn2 (hid hform) hc hd hlt (hid (by unfold wrap64; omega)) (hid (by rw [e8]; exact wrap64_s8 d hd8))
        rw [e8] at this
        exact this
def oneV (r : Op1.Ins × Int × Int) : Value := .tuple #[insV r.1, .int .i64 r.2.1, .int .i64 r.2.2]
set_option maxRecDepth 100000 in
theorem one_out (a : Option Addr) (n cap : Nat) (p : Int) (w : World) (h : p < 0 ∨ (n : Int) ≤ p) :
    Calls Tryz.prog 178 #[.slice a n cap, .int .i64 p] w fun e w' => e = .returned (oneV (Op1.noIns, 0, 11)) ∧ Below w.heap.size w w' := by
  unfold oneV insV Op1.noIns
  rcases h with h | h
  · have hd : decide (p < 0) = true := by simpa using h
    go_enter Tryz.func178, Tryz.ntmps178
    go_wp2
    exact bodyPost_ret (v := .tuple #[.agg #[.int .i64 0, .int .i64 0, .int .i64 0, .int .i64 0], .int .i64 0, .int .i64 11]) (by simp [results, Tryz.results178, go_sem]) rfl ⟨rfl, (by repeat' first | with_reducible exact Below.refl _ _ | with_reducible assumption | with_reducible refine belows_drewN ?_ _ | with_reducible refine Below.drew ?_ | with_reducible refine Below.setCell ?_ ?_ _ | with_reducible refine Below.alloc ?_ ?_ _ | omega | (simp; done) | (simp; omega))⟩
  · have hd : decide (p < 0) = false := by simp; omega
    go_enter Tryz.func178, Tryz.ntmps178
    go_wp2
    exact bodyPost_ret (v := .tuple #[.agg #[.int .i64 0, .int .i64 0, .int .i64 0, .int .i64 0], .int .i64 0, .int .i64 11]) (by simp [results, Tryz.results178, go_sem]) rfl ⟨rfl, (by repeat' first | with_reducible exact Below.refl _ _ | with_reducible assumption | with_reducible refine belows_drewN ?_ _ | with_reducible refine Below.drew ?_ | with_reducible refine Below.setCell ?_ ?_ _ | with_reducible refine Below.alloc ?_ ?_ _ | omega | (simp; done) | (simp; omega))⟩
set_option maxRecDepth 100000 in
theorem one_noop (b o n cap k c : Nat) (w : World) (hk : k < n) (hc8 : c < 256) (ht : Tabs w) (hc : w.cell? ⟨b, o + k, none⟩ = some (.int .u8 c)) (hop : Op1.isOp c = false) :
    Calls Tryz.prog 178 #[.slice (some ⟨b, o, none⟩) n cap, .int .i64 k] w fun e w' => e = .returned (oneV (Op1.noIns, 0, 10)) ∧ Below w.heap.size w w' := by
  unfold oneV insV Op1.noIns
  have hsize := fun W (h : Below w.heap.size w W) => size_any c W (ht.below h ht.size)
  unfold szV at hsize
  rw [hop] at hsize
  have H := hid hsize
  generalize Op1.szOf (c : Int) = sz at *
  have hlt := World.block_lt_of_cell? w _ hc
  have hd : decide ((k : Int) < 0) = false := by simp
  clear hsize hop ht
  go_enter Tryz.func178, Tryz.ntmps178
  go_wp2_with (go_at_call 192; refine (H.out _ (by repeat' first | with_reducible exact Below.refl _ _ | with_reducible assumption | with_reducible refine belows_drewN ?_ _ | with_reducible refine Below.drew ?_ | with_reducible refine Below.setCell ?_ ?_ _ | with_reducible refine Below.alloc ?_ ?_ _ | omega | (simp; done) | (simp; omega))).mono ?_; rintro e w' ⟨rfl, rfl⟩)
  exact bodyPost_ret (v := .tuple #[.agg #[.int .i64 0, .int .i64 0, .int .i64 0, .int .i64 0], .int .i64 0, .int .i64 10]) (by simp [results, Tryz.results178, go_sem]) rfl ⟨rfl, (by repeat' first | with_reducible exact Below.refl _ _ | with_reducible assumption | with_reducible refine belows_drewN ?_ _ | with_reducible refine Below.drew ?_ | with_reducible refine Below.setCell ?_ ?_ _ | with_reducible refine Below.alloc ?_ ?_ _ | omega | (simp; done) | (simp; omega))⟩
set_option maxRecDepth 100000 in
theorem one_cut (b o n cap k c sz : Nat) (w : World) (hk : k < n) (hn : n ≤ 140737488355328) (hc8 : c < 256) (ht : Tabs w) (hc : w.cell? ⟨b, o + k, none⟩ = some (.int .u8 c)) (hop : Op1.isOp c = true) (hsz : Op1.szOf c = sz) (hcut : n - k < sz) :
    Calls Tryz.prog 178 #[.slice (some ⟨b, o, none⟩) n cap, .int .i64 k] w fun e w' => e = .returned (oneV (Op1.noIns, 0, 11)) ∧ Below w.heap.size w w' := by
  unfold oneV insV Op1.noIns
  have hsize := fun W (h : Below w.heap.size w W) => size_any c W (ht.below h ht.size)
  unfold szV at hsize
  rw [hop, hsz] at hsize
  have H := hid hsize
  have hlt := World.block_lt_of_cell? w _ hc
  have hd : decide ((k : Int) < 0) = false := by simp
  have hd2 : decide ((n : Int) - (k : Int) < (sz : Int)) = true := by simp; omega
  clear hsize hop ht hsz hcut
  go_enter Tryz.func178, Tryz.ntmps178
  go_wp2_with (go_at_call 192; refine (H.out _ (by repeat' first | with_reducible exact Below.refl _ _ | with_reducible assumption | with_reducible refine belows_drewN ?_ _ | with_reducible refine Below.drew ?_ | with_reducible refine Below.setCell ?_ ?_ _ | with_reducible refine Below.alloc ?_ ?_ _ | omega | (simp; done) | (simp; omega))).mono ?_; rintro e w' ⟨rfl, rfl⟩)
  exact bodyPost_ret (v := .tuple #[.agg #[.int .i64 0, .int .i64 0, .int .i64 0, .int .i64 0], .int .i64 0, .int .i64 11]) (by simp [results, Tryz.results178, go_sem]) rfl ⟨rfl, (by repeat' first | with_reducible exact Below.refl _ _ | with_reducible assumption | with_reducible refine belows_drewN ?_ _ | with_reducible refine Below.drew ?_ | with_reducible refine Below.setCell ?_ ?_ _ | with_reducible refine Below.alloc ?_ ?_ _ | omega | (simp; done) | (simp; omega))⟩
end Go.Proofs.YtehjindeggmfpaaGreatDoor.L1
namespace Go.Proofs.YtehjindeggmfpaaGreatDoor.L1
open Go.RowKit

theorem bcell {W w1 : World} (hb : Below W.heap.size W w1) : (∀ b o, b < W.heap.size → w1.cell? ⟨b, o, none⟩ = W.cell? ⟨b, o, none⟩) ∧ (∀ b o, b < W.heap.size → w1.frozen? ⟨b, o, none⟩ = W.frozen? ⟨b, o, none⟩) :=
  ⟨fun b o h => hb.cell (p := ⟨b, o, none⟩) h, fun b o h => hb.frozen (p := ⟨b, o, none⟩) h⟩
set_option maxRecDepth 100000 in
theorem one_zero (b o n cap k c : Nat) (w : World) (hk : k < n) (hn : n ≤ 140737488355328) (hcap : n ≤ cap) (hc8 : c < 256) (ht : Tabs w) (hc : w.cell? ⟨b, o + k, none⟩ = some (.int .u8 c)) (hop : Op1.isOp c = true) (hsz : Op1.szOf c = 1) (hf : Op1.formOf c = 0) (h188 : c ≠ 188) :
    Calls Tryz.prog 178 #[.slice (some ⟨b, o, none⟩) n cap, .int .i64 k] w fun e w' => e = .returned (oneV (⟨k, c, 0, 0⟩, k + 1, 0)) ∧ Below w.heap.size w w' := by
  unfold oneV insV
  have hsize := fun W (h : Below w.heap.size w W) => size_any c W (ht.below h ht.size)
  unfold szV at hsize
  rw [hop, hsz] at hsize
  have hread := fun sv W (h : Below w.heap.size w W) => read_zero c k sv W (ht.below h ht.size) hf
  unfold insV at hread
  have H := hid hsize
  have HR := hid hread
  have hlt := World.block_lt_of_cell? w _ hc
  have hd : decide ((k : Int) < 0) = false := by simp
  have hd2 : decide ((n : Int) - (k : Int) < 1) = false := by simp; omega
  have h1 : ((c : Int) == 188) = false := by simp; omega
  clear hsize hop ht hsz hf hread h188
  go_enter Tryz.func178, Tryz.ntmps178
  go_wp2_with (first | (go_at_call 192; refine (H.out _ (by repeat' first | with_reducible exact Below.refl _ _ | with_reducible assumption | with_reducible refine belows_drewN ?_ _ | with_reducible refine Below.drew ?_ | with_reducible refine Below.setCell ?_ ?_ _ | with_reducible refine Below.alloc ?_ ?_ _ | omega | (simp; done) | (simp; omega))).mono ?_; rintro e w' ⟨rfl, rfl⟩) | (go_at_call 193; refine (HR.out _ _ (by repeat' first | with_reducible exact Below.refl _ _ | with_reducible assumption | with_reducible refine belows_drewN ?_ _ | with_reducible refine Below.drew ?_ | with_reducible refine Below.setCell ?_ ?_ _ | with_reducible refine Below.alloc ?_ ?_ _ | omega | (simp; done) | (simp; omega))).mono ?_; rintro e w' ⟨rfl, hb⟩; obtain ⟨hcc, hff⟩ := bcell hb; have hz := hb.size; simp only [World.size_alloc] at hz; have hz1 : w.heap.size < w'.heap.size := by omega))
  all_goals have hb' := (belows (B := w.heap.size) (a := w) (by repeat' first | with_reducible exact Below.refl _ _ | with_reducible assumption | with_reducible refine belows_drewN ?_ _ | with_reducible refine Below.drew ?_ | with_reducible refine Below.setCell ?_ ?_ _ | with_reducible refine Below.alloc ?_ ?_ _ | omega | (simp; done) | (simp; omega)) hb (by simp))
  all_goals exact bodyPost_ret (v := .tuple #[.agg #[.int .i64 k, .int .i64 c, .int .i64 0, .int .i64 0], .int .i64 (k + 1), .int .i64 0]) (by simp [results, Tryz.results178, go_sem, hcc, hz1]) rfl ⟨rfl, (by repeat' first | with_reducible exact Below.refl _ _ | with_reducible assumption | with_reducible refine belows_drewN ?_ _ | with_reducible refine Below.drew ?_ | with_reducible refine Below.setCell ?_ ?_ _ | with_reducible refine Below.alloc ?_ ?_ _ | omega | (simp; done) | (simp; omega))⟩
set_option maxRecDepth 100000 in
theorem one_long (b o n cap k c sz : Nat) (xa xb : Int) (w : World) (hk : k + sz ≤ n) (hn : n ≤ 140737488355328) (hcap : n ≤ cap) (hc8 : c < 256) (ht : Tabs w) (hc : w.cell? ⟨b, o + k, none⟩ = some (.int .u8 c)) (hop : Op1.isOp c = true) (hsz : Op1.szOf c = sz) (hsz2 : 2 ≤ sz)
    (hread : ∀ W, Below w.heap.size w W → Calls Tryz.prog 193 #[.int .i64 c, .int .i64 k, .slice (some ⟨b, o + (k + 1), none⟩) (k + sz - (k + 1)) (cap - (k + 1))] W fun e w' => e = .returned (insV ⟨k, c, xa, xb⟩) ∧ Below W.heap.size W w')
    (hgood : c ≠ 188 ∨ xa = 10 ∨ xa = 11) :
    Calls Tryz.prog 178 #[.slice (some ⟨b, o, none⟩) n cap, .int .i64 k] w fun e w' => e = .returned (oneV (⟨k, c, xa, xb⟩, k + sz, 0)) ∧ Below w.heap.size w w' := by
  unfold oneV insV
  have hsize := fun W (h : Below w.heap.size w W) => size_any c W (ht.below h ht.size)
  unfold szV at hsize
  rw [hop, hsz] at hsize
  unfold insV at hread
  have H := hid hsize
  have HR := hid hread
  have hlt := World.block_lt_of_cell? w _ hc
  have hd : decide ((k : Int) < 0) = false := by simp
  have hd2 : decide ((n : Int) - (k : Int) < (sz : Int)) = false := by simp; omega
  have hne : ¬ cap = k + 1 := by omega
  clear hsize hop ht hsz hread
  rcases hgood with h188 | h188 | h188
  · have h1 : ((c : Int) == 188) = false := by simp; omega
    clear h188
    (go_enter Tryz.func178, Tryz.ntmps178; go_wp2_with (first | (go_at_call 192; refine (H.out _ (by repeat' first | with_reducible exact Below.refl _ _ | with_reducible assumption | with_reducible refine belows_drewN ?_ _ | with_reducible refine Below.drew ?_ | with_reducible refine Below.setCell ?_ ?_ _ | with_reducible refine Below.alloc ?_ ?_ _ | omega | (simp; done) | (simp; omega))).mono ?_; rintro e w' ⟨rfl, rfl⟩) | (go_at_call 193; refine (HR.out _ (by repeat' first | with_reducible exact Below.refl _ _ | with_reducible assumption | with_reducible refine belows_drewN ?_ _ | with_reducible refine Below.drew ?_ | with_reducible refine Below.setCell ?_ ?_ _ | with_reducible refine Below.alloc ?_ ?_ _ | omega | (simp; done) | (simp; omega))).mono ?_; rintro e w' ⟨rfl, hb⟩; obtain ⟨hcc, hff⟩ := bcell hb; have hz := hb.size; simp only [World.size_alloc] at hz; have hz1 : w.heap.size < w'.heap.size := by omega)); have hb' := (belows (B := w.heap.size) (a := w) (by repeat' first | with_reducible exact Below.refl _ _ | with_reducible assumption | with_reducible refine belows_drewN ?_ _ | with_reducible refine Below.drew ?_ | with_reducible refine Below.setCell ?_ ?_ _ | with_reducible refine Below.alloc ?_ ?_ _ | omega | (simp; done) | (simp; omega)) hb (by simp)); exact bodyPost_ret (v := .tuple #[.agg #[.int .i64 k, .int .i64 c, .int .i64 _, .int .i64 xb], .int .i64 (k + sz), .int .i64 0]) (by simp [results, Tryz.results178, go_sem, hcc, hz1]) rfl ⟨rfl, (by repeat' first | with_reducible exact Below.refl _ _ | with_reducible assumption | with_reducible refine belows_drewN ?_ _ | with_reducible refine Below.drew ?_ | with_reducible refine Below.setCell ?_ ?_ _ | with_reducible refine Below.alloc ?_ ?_ _ | omega | (simp; done) | (simp; omega))⟩)
  · subst h188
    by_cases h188 : c = 188
    · have h1 : ((c : Int) == 188) = true := by simp; omega
      clear h188
      (go_enter Tryz.func178, Tryz.ntmps178; go_wp2_with (first | (go_at_call 192; refine (H.out _ (by repeat' first | with_reducible exact Below.refl _ _ | with_reducible assumption | with_reducible refine belows_drewN ?_ _ | with_reducible refine Below.drew ?_ | with_reducible refine Below.setCell ?_ ?_ _ | with_reducible refine Below.alloc ?_ ?_ _ | omega | (simp; done) | (simp; omega))).mono ?_; rintro e w' ⟨rfl, rfl⟩) | (go_at_call 193; refine (HR.out _ (by repeat' first | with_reducible exact Below.refl _ _ | with_reducible assumption | with_reducible refine belows_drewN ?_ _ | with_reducible refine Below.drew ?_ | with_reducible refine Below.setCell ?_ ?_ _ | with_reducible refine Below.alloc ?_ ?_ _ | omega | (simp; done) | (simp; omega))).mono ?_; rintro e w' ⟨rfl, hb⟩; obtain ⟨hcc, hff⟩ := bcell hb; have hz := hb.size; simp only [World.size_alloc] at hz; have hz1 : w.heap.size < w'.heap.size := by omega)); have hb' := (belows (B := w.heap.size) (a := w) (by repeat' first | with_reducible exact Below.refl _ _ | with_reducible assumption | with_reducible refine belows_drewN ?_ _ | with_reducible refine Below.drew ?_ | with_reducible refine Below.setCell ?_ ?_ _ | with_reducible refine Below.alloc ?_ ?_ _ | omega | (simp; done) | (simp; omega)) hb (by simp)); exact bodyPost_ret (v := .tuple #[.agg #[.int .i64 k, .int .i64 c, .int .i64 _, .int .i64 xb], .int .i64 (k + sz), .int .i64 0]) (by simp [results, Tryz.results178, go_sem, hcc, hz1]) rfl ⟨rfl, (by repeat' first | with_reducible exact Below.refl _ _ | with_reducible assumption | with_reducible refine belows_drewN ?_ _ | with_reducible refine Below.drew ?_ | with_reducible refine Below.setCell ?_ ?_ _ | with_reducible refine Below.alloc ?_ ?_ _ | omega | (simp; done) | (simp; omega))⟩)
    · have h1 : ((c : Int) == 188) = false := by simp; omega
      clear h188
      (go_enter Tryz.func178, Tryz.ntmps178; go_wp2_with (first | (go_at_call 192; refine (H.out _ (by repeat' first | with_reducible exact Below.refl _ _ | with_reducible assumption | with_reducible refine belows_drewN ?_ _ | with_reducible refine Below.drew ?_ | with_reducible refine Below.setCell ?_ ?_ _ | with_reducible refine Below.alloc ?_ ?_ _ | omega | (simp; done) | (simp; omega))).mono ?_; rintro e w' ⟨rfl, rfl⟩) | (go_at_call 193; refine (HR.out _ (by repeat' first | with_reducible exact Below.refl _ _ | with_reducible assumption | with_reducible refine belows_drewN ?_ _ | with_reducible refine Below.drew ?_ | with_reducible refine Below.setCell ?_ ?_ _ | with_reducible refine Below.alloc ?_ ?_ _ | omega | (simp; done) | (simp; omega))).mono ?_; rintro e w' ⟨rfl, hb⟩; obtain ⟨hcc, hff⟩ := bcell hb; have hz := hb.size; simp only [World.size_alloc] at hz; have hz1 : w.heap.size < w'.heap.size := by omega)); have hb' := (belows (B := w.heap.size) (a := w) (by repeat' first | with_reducible exact Below.refl _ _ | with_reducible assumption | with_reducible refine belows_drewN ?_ _ | with_reducible refine Below.drew ?_ | with_reducible refine Below.setCell ?_ ?_ _ | with_reducible refine Below.alloc ?_ ?_ _ | omega | (simp; done) | (simp; omega)) hb (by simp)); exact bodyPost_ret (v := .tuple #[.agg #[.int .i64 k, .int .i64 c, .int .i64 _, .int .i64 xb], .int .i64 (k + sz), .int .i64 0]) (by simp [results, Tryz.results178, go_sem, hcc, hz1]) rfl ⟨rfl, (by repeat' first | with_reducible exact Below.refl _ _ | with_reducible assumption | with_reducible refine belows_drewN ?_ _ | with_reducible refine Below.drew ?_ | with_reducible refine Below.setCell ?_ ?_ _ | with_reducible refine Below.alloc ?_ ?_ _ | omega | (simp; done) | (simp; omega))⟩)
  · subst h188
    by_cases h188 : c = 188
    · have h1 : ((c : Int) == 188) = true := by simp; omega
      clear h188
      (go_enter Tryz.func178, Tryz.ntmps178; go_wp2_with (first | (go_at_call 192; refine (H.out _ (by repeat' first | with_reducible exact Below.refl _ _ | with_reducible assumption | with_reducible refine belows_drewN ?_ _ | with_reducible refine Below.drew ?_ | with_reducible refine Below.setCell ?_ ?_ _ | with_reducible refine Below.alloc ?_ ?_ _ | omega | (simp; done) | (simp; omega))).mono ?_; rintro e w' ⟨rfl, rfl⟩) | (go_at_call 193; refine (HR.out _ (by repeat' first | with_reducible exact Below.refl _ _ | with_reducible assumption | with_reducible refine belows_drewN ?_ _ | with_reducible refine Below.drew ?_ | with_reducible refine Below.setCell ?_ ?_ _ | with_reducible refine Below.alloc ?_ ?_ _ | omega | (simp; done) | (simp; omega))).mono ?_; rintro e w' ⟨rfl, hb⟩; obtain ⟨hcc, hff⟩ := bcell hb; have hz := hb.size; simp only [World.size_alloc] at hz; have hz1 : w.heap.size < w'.heap.size := by omega)); have hb' := (belows (B := w.heap.size) (a := w) (by repeat' first | with_reducible exact Below.refl _ _ | with_reducible assumption | with_reducible refine belows_drewN ?_ _ | with_reducible refine Below.drew ?_ | with_reducible refine Below.setCell ?_ ?_ _ | with_reducible refine Below.alloc ?_ ?_ _ | omega | (simp; done) | (simp; omega)) hb (by simp)); exact bodyPost_ret (v := .tuple #[.agg #[.int .i64 k, .int .i64 c, .int .i64 _, .int .i64 xb], .int .i64 (k + sz), .int .i64 0]) (by simp [results, Tryz.results178, go_sem, hcc, hz1]) rfl ⟨rfl, (by repeat' first | with_reducible exact Below.refl _ _ | with_reducible assumption | with_reducible refine belows_drewN ?_ _ | with_reducible refine Below.drew ?_ | with_reducible refine Below.setCell ?_ ?_ _ | with_reducible refine Below.alloc ?_ ?_ _ | omega | (simp; done) | (simp; omega))⟩)
    · have h1 : ((c : Int) == 188) = false := by simp; omega
      clear h188
      (go_enter Tryz.func178, Tryz.ntmps178; go_wp2_with (first | (go_at_call 192; refine (H.out _ (by repeat' first | with_reducible exact Below.refl _ _ | with_reducible assumption | with_reducible refine belows_drewN ?_ _ | with_reducible refine Below.drew ?_ | with_reducible refine Below.setCell ?_ ?_ _ | with_reducible refine Below.alloc ?_ ?_ _ | omega | (simp; done) | (simp; omega))).mono ?_; rintro e w' ⟨rfl, rfl⟩) | (go_at_call 193; refine (HR.out _ (by repeat' first | with_reducible exact Below.refl _ _ | with_reducible assumption | with_reducible refine belows_drewN ?_ _ | with_reducible refine Below.drew ?_ | with_reducible refine Below.setCell ?_ ?_ _ | with_reducible refine Below.alloc ?_ ?_ _ | omega | (simp; done) | (simp; omega))).mono ?_; rintro e w' ⟨rfl, hb⟩; obtain ⟨hcc, hff⟩ := bcell hb; have hz := hb.size; simp only [World.size_alloc] at hz; have hz1 : w.heap.size < w'.heap.size := by omega)); have hb' := (belows (B := w.heap.size) (a := w) (by repeat' first | with_reducible exact Below.refl _ _ | with_reducible assumption | with_reducible refine belows_drewN ?_ _ | with_reducible refine Below.drew ?_ | with_reducible refine Below.setCell ?_ ?_ _ | with_reducible refine Below.alloc ?_ ?_ _ | omega | (simp; done) | (simp; omega)) hb (by simp)); exact bodyPost_ret (v := .tuple #[.agg #[.int .i64 k, .int .i64 c, .int .i64 _, .int .i64 xb], .int .i64 (k + sz), .int .i64 0]) (by simp [results, Tryz.results178, go_sem, hcc, hz1]) rfl ⟨rfl, (by repeat' first | with_reducible exact Below.refl _ _ | with_reducible assumption | with_reducible refine belows_drewN ?_ _ | with_reducible refine Below.drew ?_ | with_reducible refine Below.setCell ?_ ?_ _ | with_reducible refine Below.alloc ?_ ?_ _ | omega | (simp; done) | (simp; omega))⟩)
set_option maxRecDepth 100000 in
theorem one_bad (b o n cap k sz : Nat) (xa xb : Int) (w : World) (hk : k + sz ≤ n) (hn : n ≤ 140737488355328) (hcap : n ≤ cap) (ht : Tabs w) (hc : w.cell? ⟨b, o + k, none⟩ = some (.int .u8 188)) (hop : Op1.isOp 188 = true) (hsz : Op1.szOf 188 = sz) (hsz2 : 2 ≤ sz)
    (hread : ∀ W, Below w.heap.size w W → Calls Tryz.prog 193 #[.int .i64 188, .int .i64 k, .slice (some ⟨b, o + (k + 1), none⟩) (k + sz - (k + 1)) (cap - (k + 1))] W fun e w' => e = .returned (insV ⟨k, 188, xa, xb⟩) ∧ Below W.heap.size W w')
    (h10 : (xa == 10) = false) (h11 : (xa == 11) = false) :
    Calls Tryz.prog 178 #[.slice (some ⟨b, o, none⟩) n cap, .int .i64 k] w fun e w' => e = .returned (oneV (Op1.noIns, 0, 13)) ∧ Below w.heap.size w w' := by
  unfold oneV Op1.noIns insV
  have hsize := fun W (h : Below w.heap.size w W) => size_any 188 W (ht.below h ht.size)
  unfold szV at hsize
  rw [hop, hsz] at hsize
  unfold insV at hread
  have H := hid hsize
  have HR := hid hread
  have hlt := World.block_lt_of_cell? w _ hc
  have hd : decide ((k : Int) < 0) = false := by simp
  have hd2 : decide ((n : Int) - (k : Int) < (sz : Int)) = false := by simp; omega
  have hne : ¬ cap = k + 1 := by omega
  have h10' : (xa != 10) = true := by simpa using h10
  have h11' : (xa != 11) = true := by simpa using h11
  clear hsize hop ht hsz hread
  go_enter Tryz.func178, Tryz.ntmps178
  go_wp2_with (first | (go_at_call 192; refine (H.out _ (by repeat' first | with_reducible exact Below.refl _ _ | with_reducible assumption | with_reducible refine belows_drewN ?_ _ | with_reducible refine Below.drew ?_ | with_reducible refine Below.setCell ?_ ?_ _ | with_reducible refine Below.alloc ?_ ?_ _ | omega | (simp; done) | (simp; omega))).mono ?_; rintro e w' ⟨rfl, rfl⟩) | (go_at_call 193; refine (HR.out _ (by repeat' first | with_reducible exact Below.refl _ _ | with_reducible assumption | with_reducible refine belows_drewN ?_ _ | with_reducible refine Below.drew ?_ | with_reducible refine Below.setCell ?_ ?_ _ | with_reducible refine Below.alloc ?_ ?_ _ | omega | (simp; done) | (simp; omega))).mono ?_; rintro e w' ⟨rfl, hb⟩; obtain ⟨hcc, hff⟩ := bcell hb; have hz := hb.size; simp only [World.size_alloc] at hz; have hz1 : w.heap.size < w'.heap.size := by omega))
  have hb' := (belows (B := w.heap.size) (a := w) (by repeat' first | with_reducible exact Below.refl _ _ | with_reducible assumption | with_reducible refine belows_drewN ?_ _ | with_reducible refine Below.drew ?_ | with_reducible refine Below.setCell ?_ ?_ _ | with_reducible refine Below.alloc ?_ ?_ _ | omega | (simp; done) | (simp; omega)) hb (by simp))
  exact bodyPost_ret (v := .tuple #[.agg #[.int .i64 0, .int .i64 0, .int .i64 0, .int .i64 0], .int .i64 0, .int .i64 13]) (by simp [results, Tryz.results178, go_sem, hcc, hz1]) rfl ⟨rfl, (by repeat' first | with_reducible exact Below.refl _ _ | with_reducible assumption | with_reducible refine belows_drewN ?_ _ | with_reducible refine Below.drew ?_ | with_reducible refine Below.setCell ?_ ?_ _ | with_reducible refine Below.alloc ?_ ?_ _ | omega | (simp; done) | (simp; omega))⟩
end Go.Proofs.YtehjindeggmfpaaGreatDoor.L1
namespace Go.Proofs.YtehjindeggmfpaaGreatDoor.L1
open Go.RowKit

set_option maxRecDepth 100000 in
theorem one_any (bs : List UInt8) (v : Value) (p : Int) (w : World) (ht : Tabs w) (hb : IsB w v bs) :
    Calls Tryz.prog 178 #[v, .int .i64 p] w fun e w' => e = .returned (oneV (Op1.one bs p)) ∧ Below w.heap.size w w' := by
  unfold Op1.one
  by_cases h0 : p < 0 ∨ (bs.length : Int) ≤ p
  · rw [if_pos h0]
    obtain ⟨a, cap, rfl⟩ := hb.len
    exact one_out a _ cap p w h0
  · rw [if_neg h0]
    obtain ⟨k, rfl⟩ := Int.eq_ofNat_of_zero_le (show 0 ≤ p by omega)
    have hk : k < bs.length := by omega
    have hn := hb.1
    rcases hb.2 with ⟨rfl, -⟩ | ⟨b, o, cap, rfl, hcap, hlt, hc⟩
    · simp at hk
    · have hc0 := hc k hk
      simp only [Int.toNat_natCast]
      have h8 := Op1.at8_lt bs k
      by_cases hop : Op1.isOp (Op1.at8 bs k) = false
      · rw [if_pos hop]
        exact one_noop b o _ cap k _ w hk h8 ht hc0 hop
      · rw [if_neg hop]
        have hop' : Op1.isOp (Op1.at8 bs k) = true := by simpa using hop
        have hsz : Op1.szOf (Op1.at8 bs k) = 1 + Op1.bh (Op1.formOf (Op1.at8 bs k)) := by unfold Op1.szOf; rw [hop']; rfl
        by_cases hcut : (bs.length : Int) - k < Op1.szOf (Op1.at8 bs k)
        · rw [if_pos hcut]
          exact one_cut b o _ cap k _ _ w hk hn h8 ht hc0 hop' rfl (by omega)
        · rw [if_neg hcut]
          have hf8 := Op1.formOf_le (Op1.at8 bs k)
          have hf188 : Op1.formOf ((188 : Nat) : Int) = 8 := by decide +kernel
          have hks : k + Op1.szOf (Op1.at8 bs k) ≤ bs.length := by omega
          by_cases hf : Op1.formOf (Op1.at8 bs k) = 0
          · have h188 : Op1.at8 bs k ≠ 188 := by intro e; rw [e] at hf; exact absurd hf (by decide +kernel)
            have h1 : Op1.szOf (Op1.at8 bs k) = 1 := by rw [hsz, hf]; rfl
            rw [if_neg (fun h => h188 h.1)]
            have := one_zero b o _ cap k _ w hk hn hcap h8 ht hc0 hop' h1 hf h188
            have e : Op1.insAt bs k = ⟨k, Op1.at8 bs k, 0, 0⟩ := by unfold Op1.insAt; rw [hf]; rfl
            rw [e, h1]
            exact this
          · have hbh : 1 ≤ Op1.bh (Op1.formOf (Op1.at8 bs k)) ∧ Op1.bh (Op1.formOf (Op1.at8 bs k)) ≤ 2 := (show ∀ f, f < 9 → f ≠ 0 → 1 ≤ Op1.bh f ∧ Op1.bh f ≤ 2 by decide +kernel) _ (by omega) hf
            have hread : ∀ W, Below w.heap.size w W → Calls Tryz.prog 193 #[.int .i64 (Op1.at8 bs k), .int .i64 k, .slice (some ⟨b, o + (k + 1), none⟩) (k + Op1.szOf (Op1.at8 bs k) - (k + 1)) (cap - (k + 1))] W
                fun e w' => e = .returned (insV ⟨k, Op1.at8 bs k, (Op1.insAt bs k).a, (Op1.insAt bs k).b⟩) ∧ Below W.heap.size W w' := by
              intro W hW
              refine read_any _ k _ _ _ (Op1.at8 bs (k + 1)) (Op1.at8 bs (k + 2)) W (ht.below hW ht.size) (by omega) (Op1.at8_lt _ _) (Op1.at8_lt _ _) (by omega) (fun _ => ⟨b, o + (k + 1), rfl, ?_, fun h2 => ?_⟩)
              · exact (hW.cell (p := ⟨b, o + (k + 1), none⟩) hlt).trans (hc (k + 1) (by omega))
              · exact (hW.cell (p := ⟨b, o + (k + 1) + 1, none⟩) hlt).trans (by have := hc (k + 2) (by omega); rwa [show o + (k + 2) = o + (k + 1) + 1 by omega] at this)
            by_cases hbad : Op1.at8 bs k = 188 ∧ Op1.at8 bs (k + 1) ≠ 10 ∧ Op1.at8 bs (k + 1) ≠ 11
            · rw [if_pos hbad]
              have ha : (Op1.insAt bs k).a = (Op1.at8 bs (k + 1) : Nat) := by
                unfold Op1.insAt; rw [hbad.1, hf188]; rfl
              have h10 : ((Op1.insAt bs k).a == 10) = false := by rw [ha]; simp; omega
              have h11 : ((Op1.insAt bs k).a == 11) = false := by rw [ha]; simp; omega
              have hs2 : 2 ≤ Op1.szOf (Op1.at8 bs k) := by omega
              rw [hbad.1] at hread hc0 hop' hks hs2
              exact one_bad b o _ cap k _ _ _ w hks hn hcap ht hc0 hop' rfl hs2 hread h10 h11
            · rw [if_neg hbad]
              have hgood : Op1.at8 bs k ≠ 188 ∨ (Op1.insAt bs k).a = 10 ∨ (Op1.insAt bs k).a = 11 := by
                by_cases h : Op1.at8 bs k = 188
                · have ha : (Op1.insAt bs k).a = (Op1.at8 bs (k + 1) : Nat) := by unfold Op1.insAt; rw [h, hf188]; rfl
                  rw [ha]; omega
                · exact .inl h
              exact one_long b o _ cap k _ _ _ _ w (by omega) hn hcap h8 ht hc0 hop' rfl (by omega) hread hgood
/-- Does it jump? -/
def jB (op : Int) : Bool := Op1.isOp op && Op1.formOf op == 6
set_option maxRecDepth 100000 in
theorem jumps_any (op : Int) (w : World) (ht : Tabs w) : Calls Tryz.prog 194 #[.int .i64 op] w fun e w' => e = .returned (.bool (jB op)) ∧ w = w' := by
  have hform := form_any op w ht
  unfold isV at hform
  unfold jB
  have hb : ((Op1.formOf op : Int) == 6) = (Op1.formOf op == 6) := by rw [Bool.eq_iff_iff]; simp; omega
  generalize Op1.formOf op = f at *
  generalize Op1.isOp op = is at *
  have H := hid hform
  clear hform
  generalize (f == 6) = g at *
  cases is
  all_goals
    go_enter Tryz.func194, Tryz.ntmps194
    go_wp2_with (go_at_call 205; refine H.out.mono ?_; rintro e w' ⟨rfl, rfl⟩)
    go_ret
    exact ⟨by simp, rfl⟩
end Go.Proofs.YtehjindeggmfpaaGreatDoor.L1
