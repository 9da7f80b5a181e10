/- Contracts of the small functions: isPlain, signed, unsigned, widthsOf. -/
import Derived.Test.YtljbcclfafndmaaDoorBasic
import Derived.Test.YtljbcclfafndmaaDoorCa
import Derived.WalkLawsBesides
import Derived.Deep.RegionWith
import Derived.BigRegion
namespace Go.Proofs.YtljbcclfafndmaaDoor
open Go.RowKit

theorem bl_len (t : ByteArray) : (Cp.bl t).length = t.size := by unfold Cp.bl; rw [Array.length_toList]; rfl
theorem bl_at (t : ByteArray) (k : Nat) (h : k < t.size) : (Cp.bl t)[k]? = some t[k] := by
  unfold Cp.bl
  rw [Array.getElem?_toList, Array.getElem?_eq_getElem (by exact h)]
  rfl
theorem ba_ext {a b : ByteArray} (h : Cp.bl a = Cp.bl b) : a = b := by
  obtain ⟨⟨x⟩⟩ := a; obtain ⟨⟨y⟩⟩ := b
  have : x = y := h
  rw [this]
/-- The table of widths holds what its text says. -/
structure Tabs (w : World) : Prop where
  size : 1 ≤ w.heap.size
  cells : ∀ k : Nat, k < 13 → w.cell? ⟨0, k * 4, none⟩ = some (.int .i64 (Cp.wd k).1) ∧ w.cell? ⟨0, k * 4 + 1, none⟩ = some (.int .i64 (Cp.wd k).2.1) ∧ w.cell? ⟨0, k * 4 + 2, none⟩ = some (.int .i64 (Cp.wd k).2.2.1) ∧ w.cell? ⟨0, k * 4 + 3, none⟩ = some (.int .i64 (Cp.wd k).2.2.2)
theorem Tabs.below {B : Nat} {w w' : World} (h : Tabs w) (hb : Below B w w') (hB : 1 ≤ B) : Tabs w' := by
  refine ⟨Nat.le_trans h.size hb.size, fun k hk => ?_⟩
  obtain ⟨a, b, c, d⟩ := h.cells k hk
  have hc := fun j => hb.cell (p := ⟨0, j, none⟩) (by simp; omega)
  exact ⟨(hc _).trans a, (hc _).trans b, (hc _).trans c, (hc _).trans d⟩
theorem all_take_step {f : UInt8 → Bool} {t : ByteArray} {k : Nat} (h : k < t.size) (hg : ((Cp.bl t).take k).all f = true) (hx : f t[k] = true) : ((Cp.bl t).take (k + 1)).all f = true := by
  rw [List.take_add_one, bl_at t k h, List.all_append, hg]
  simp [hx]
theorem all_bad {f : UInt8 → Bool} {t : ByteArray} {k : Nat} (h : k < t.size) (hx : f t[k] = false) : (Cp.bl t).all f = false := by
  rw [List.all_eq_false]
  refine ⟨t[k], List.mem_of_getElem? (bl_at t k h), by simp [hx]⟩
set_option maxRecDepth 100000 in
set_option maxHeartbeats 400000 in
theorem isPlain_any (s : ByteArray) (w : World) (hs : s.size ≤ 140737488355328) :
    Calls Tryd.prog 57 #[.string s] w fun e w' => e = .returned (.bool (Cp.plainB (Cp.bl s))) ∧ w = w' := by
  unfold Cp.plainB
  obtain ⟨f, hf⟩ : ∃ f : UInt8 → Bool, f = fun c => decide (1 ≤ c.toNat) && decide (c.toNat ≤ 127) := ⟨_, rfl⟩
  rw [← hf]
  obtain ⟨r, hr⟩ : ∃ r, r = (Cp.bl s).all f := ⟨_, rfl⟩
  rw [← hr]
  have HR := hid hr
  clear hr
  go_enter Tryd.func57, Tryd.ntmps57
  go_wp2
  go_loop [6] (fun i => ∃ k : Nat, k ≤ s.size ∧ i = .int .i64 k ∧ Hid (((Cp.bl s).take k).all f = true)) (fun i => s.size - (intOf i).toNat)
  case atStart => exact ⟨0, Nat.zero_le _, rfl, rfl⟩
  case round =>
    obtain ⟨k, hk, rfl, hg⟩ := hrel
    by_cases hlt : k < s.size
    · have HF0 : f s[k] = (decide (1 ≤ s[k].toNat) && decide (s[k].toNat ≤ 127)) := by rw [hf]
      clear hf
      by_cases h1 : s[k].toNat = 0
      · have hd : ((s[k].toNat : Int) == 0) = true := by rw [beq_iff_eq]; omega
        have HF := hid (HR.out.trans <| all_bad (f := f) hlt (by rw [HF0]; simp; omega))
        clear HF0
        go_wp2
        go_ret
        exact ⟨by rw [HF.out]; rfl, rfl⟩
      · have hd : ((s[k].toNat : Int) == 0) = false := by rw [beq_eq_false_iff_ne]; omega
        by_cases h2 : 127 < (s[k].toNat : Int)
        · have hd2 : decide (127 < (s[k].toNat : Int)) = true := by simpa using h2
          have HF := hid (HR.out.trans <| all_bad (f := f) hlt (by rw [HF0]; simp; omega))
          clear HF0
          go_wp2
          go_ret
          exact ⟨by rw [HF.out]; rfl, rfl⟩
        · have hd2 : decide (127 < (s[k].toNat : Int)) = false := by simpa using h2
          have HF := hid (all_take_step hlt hg.out (by rw [HF0]; simp; omega))
          clear HF0
          go_wp2
          go_round
          case rel => exact ⟨k + 1, by omega, by go_num, HF⟩
          case measure => simp [intOf]; omega
    · obtain rfl : k = s.size := by omega
      have HF : Hid (r = true) := by
        have h := hg.out
        show r = true
        rw [HR.out]
        rwa [List.take_of_length_le (by rw [bl_len]; exact Nat.le_refl _)] at h
      go_wp2
      go_ret
      exact ⟨by rw [HF.out]; rfl, rfl⟩
set_option maxRecDepth 100000 in
set_option maxHeartbeats 400000 in
theorem s0 (z : Int) : wrap64 (z * 18446744073709551616) / 18446744073709551616 = 0 := by unfold wrap64; omega
theorem s4 (z : Int) : wrap64 (z * 4294967296) / 4294967296 = IntKind.i32.wrap z := by rw [IntKind.wrap_i32]; unfold wrap64; omega
theorem and0 (z : Int) : bits .and .i64 z 0 = 0 := by
  show IntKind.i64.wrap ((BitVec.ofInt 64 z &&& BitVec.ofInt 64 0).toNat : Int) = _
  rw [BitVec.toNat_and, show (BitVec.ofInt 64 0).toNat = 0 from rfl, Nat.and_zero]
  rfl
theorem and16 (z : Int) : bits .and .i64 z 65535 = z % 65536 := by
  show IntKind.i64.wrap ((BitVec.ofInt 64 z &&& BitVec.ofInt 64 65535).toNat : Int) = _
  rw [BitVec.toNat_and, show (BitVec.ofInt 64 65535).toNat = 2 ^ 16 - 1 from rfl, Nat.and_two_pow_sub_one_eq_mod, BitVec.toNat_ofInt, IntKind.wrap_i64]
  omega
set_option maxRecDepth 100000 in
set_option maxHeartbeats 400000 in
theorem signed_0 (z : Int) (w : World) : Calls Tryd.prog 60 #[.int .i64 z, .int .i64 0] w fun e w' => e = .returned (.int .i64 0) ∧ w = w' := by
  go_enter Tryd.func60, Tryd.ntmps60
  go_wp2
  go_ret
  exact ⟨by rw [← s0 z]; rfl, rfl⟩
set_option maxRecDepth 100000 in
set_option maxHeartbeats 400000 in
theorem signed_4 (z : Int) (w : World) : Calls Tryd.prog 60 #[.int .i64 z, .int .i64 4] w fun e w' => e = .returned (.int .i64 (IntKind.i32.wrap z)) ∧ w = w' := by
  go_enter Tryd.func60, Tryd.ntmps60
  go_wp2
  go_ret
  exact ⟨by rw [← s4]; rfl, rfl⟩
set_option maxRecDepth 100000 in
set_option maxHeartbeats 400000 in
theorem signed_8 (z : Int) (w : World) : Calls Tryd.prog 60 #[.int .i64 z, .int .i64 8] w fun e w' => e = .returned (.int .i64 (IntKind.i64.wrap z)) ∧ w = w' := by
  go_enter Tryd.func60, Tryd.ntmps60
  go_wp2
  go_ret
  exact ⟨by rw [IntWalk.i64_left]; rfl, rfl⟩
set_option maxRecDepth 100000 in
set_option maxHeartbeats 400000 in
theorem unsigned_0 (z : Int) (w : World) : Calls Tryd.prog 61 #[.int .i64 z, .int .i64 0] w fun e w' => e = .returned (.int .i64 0) ∧ w = w' := by
  go_enter Tryd.func61, Tryd.ntmps61
  go_wp2
  go_ret
  exact ⟨by show Ending.returned (.int .i64 (bits .and .i64 z 0)) = _; rw [and0], rfl⟩
set_option maxRecDepth 100000 in
set_option maxHeartbeats 400000 in
theorem unsigned_2 (z : Int) (w : World) : Calls Tryd.prog 61 #[.int .i64 z, .int .i64 2] w fun e w' => e = .returned (.int .i64 (z % 65536)) ∧ w = w' := by
  go_enter Tryd.func61, Tryd.ntmps61
  go_wp2
  go_ret
  exact ⟨by rw [← and16 z]; rfl, rfl⟩
set_option maxRecDepth 100000 in
set_option maxHeartbeats 1000000 in
theorem widthsOf_out (t : Int) (w : World) (h : t < 0 ∨ 13 ≤ t) : Calls Tryd.prog 55 #[.int .i64 t] w fun e w' => e = .returned (.tuple #[.agg #[.int .i64 0, .int .i64 0, .int .i64 0, .int .i64 0], .bool false]) ∧ Below w.heap.size w w' := by
  rcases h with h | h
  · have hd : decide (t < 0) = true := by simpa using h
    go_enter Tryd.func55, Tryd.ntmps55
    go_wp2
    exact bodyPost_ret (v := .tuple #[.agg #[.int .i64 0, .int .i64 0, .int .i64 0, .int .i64 0], .bool false]) (by simp [results, Tryd.results55, go_sem]) rfl ⟨rfl, (by repeat' first | with_reducible exact Below.refl _ _ | with_reducible assumption | with_reducible refine belows_drewN ?_ _ | with_reducible refine Below.drew ?_ | with_reducible refine Below.setCell ?_ ?_ _ | with_reducible refine Below.alloc ?_ ?_ _ | omega | (simp; done) | (simp; omega))⟩
  · have hd : decide (t < 0) = false := by simp; omega
    have hd2 : decide (13 ≤ t) = true := by simpa using h
    go_enter Tryd.func55, Tryd.ntmps55
    go_wp2
    exact bodyPost_ret (v := .tuple #[.agg #[.int .i64 0, .int .i64 0, .int .i64 0, .int .i64 0], .bool false]) (by simp [results, Tryd.results55, go_sem]) rfl ⟨rfl, (by repeat' first | with_reducible exact Below.refl _ _ | with_reducible assumption | with_reducible refine belows_drewN ?_ _ | with_reducible refine Below.drew ?_ | with_reducible refine Below.setCell ?_ ?_ _ | with_reducible refine Below.alloc ?_ ?_ _ | omega | (simp; done) | (simp; omega))⟩
set_option maxRecDepth 100000 in
set_option maxHeartbeats 1000000 in
theorem widthsOf_in (k : Nat) (w : World) (hk : k < 13) (ht : Tabs w) : Calls Tryd.prog 55 #[.int .i64 k] w fun e w' => e = .returned (.tuple #[.agg #[.int .i64 (Cp.wd k).1, .int .i64 (Cp.wd k).2.1, .int .i64 (Cp.wd k).2.2.1, .int .i64 (Cp.wd k).2.2.2], .bool (Cp.knownB k)]) ∧ Below w.heap.size w w' := by
  obtain ⟨a, b, c, d⟩ := ht.cells k hk
  have hz : 0 < w.heap.size := ht.size
  have hK : Hid (Cp.knownB k = !(((Cp.wd k).1 : Int) == 0 && ((Cp.wd k).2.1 : Int) == 0 && ((Cp.wd k).2.2.1 : Int) == 0 && ((Cp.wd k).2.2.2 : Int) == 0)) := (show ∀ k, k < 13 → Cp.knownB (k : Nat) = !(((Cp.wd (k : Nat)).1 : Int) == 0 && ((Cp.wd (k : Nat)).2.1 : Int) == 0 && ((Cp.wd (k : Nat)).2.2.1 : Int) == 0 && ((Cp.wd (k : Nat)).2.2.2 : Int) == 0) by decide +kernel) k hk
  obtain ⟨x0, h0⟩ : ∃ x, x = ((Cp.wd k).1 : Int) := ⟨_, rfl⟩
  obtain ⟨x1, h1⟩ : ∃ x, x = ((Cp.wd k).2.1 : Int) := ⟨_, rfl⟩
  obtain ⟨x2, h2⟩ : ∃ x, x = ((Cp.wd k).2.2.1 : Int) := ⟨_, rfl⟩
  obtain ⟨x3, h3⟩ : ∃ x, x = ((Cp.wd k).2.2.2 : Int) := ⟨_, rfl⟩
  rw [← h0, ← h1, ← h2, ← h3] at hK ⊢
  rw [← h0] at a
  rw [← h1] at b
  rw [← h2] at c
  rw [← h3] at d
  have hd1 : decide ((k : Int) < 0) = false := by simp
  have hd2 : decide (13 ≤ (k : Int)) = false := by simp; omega
  have hki : (k : Int) < 13 := by omega
  have hcls : (x0 = 0 ∧ x1 = 0 ∧ x2 = 0 ∧ x3 = 0) ∨ (¬ x0 = 0) ∨ (x0 = 0 ∧ ¬ x1 = 0) ∨ (x0 = 0 ∧ x1 = 0 ∧ ¬ x2 = 0) := by
    rw [h0, h1, h2, h3]
    exact (show ∀ k, k < 13 → (((Cp.wd (k : Nat)).1 : Int) = 0 ∧ ((Cp.wd (k : Nat)).2.1 : Int) = 0 ∧ ((Cp.wd (k : Nat)).2.2.1 : Int) = 0 ∧ ((Cp.wd (k : Nat)).2.2.2 : Int) = 0) ∨ (¬ ((Cp.wd (k : Nat)).1 : Int) = 0) ∨ (((Cp.wd (k : Nat)).1 : Int) = 0 ∧ ¬ ((Cp.wd (k : Nat)).2.1 : Int) = 0) ∨ (((Cp.wd (k : Nat)).1 : Int) = 0 ∧ ((Cp.wd (k : Nat)).2.1 : Int) = 0 ∧ ¬ ((Cp.wd (k : Nat)).2.2.1 : Int) = 0) by decide +kernel) k hk
  clear h0 h1 h2 h3 ht
  rcases hcls with ⟨rfl, rfl, rfl, rfl⟩ | g0 | ⟨rfl, g1⟩ | ⟨rfl, rfl, g2⟩
  · rw [show Cp.knownB k = false from hK.out]
    (go_enter Tryd.func55, Tryd.ntmps55; go_wp2; go_region; go_wp2)
    exact bodyPost_ret (v := .tuple #[.agg #[.int .i64 0, .int .i64 0, .int .i64 0, .int .i64 0], .bool false]) (by simp [results, Tryd.results55, go_sem]) rfl ⟨rfl, (by repeat' first | with_reducible exact Below.refl _ _ | with_reducible assumption | with_reducible refine belows_drewN ?_ _ | with_reducible refine Below.drew ?_ | with_reducible refine Below.setCell ?_ ?_ _ | with_reducible refine Below.alloc ?_ ?_ _ | omega | (simp; done) | (simp; omega))⟩
  · rw [show Cp.knownB k = true by rw [hK.out]; simp [g0]]
    (go_enter Tryd.func55, Tryd.ntmps55; go_wp2; go_region; go_wp2)
    exact bodyPost_ret (v := .tuple #[.agg #[.int .i64 x0, .int .i64 x1, .int .i64 x2, .int .i64 x3], .bool true]) (by simp [results, Tryd.results55, go_sem]) rfl ⟨rfl, (by repeat' first | with_reducible exact Below.refl _ _ | with_reducible assumption | with_reducible refine belows_drewN ?_ _ | with_reducible refine Below.drew ?_ | with_reducible refine Below.setCell ?_ ?_ _ | with_reducible refine Below.alloc ?_ ?_ _ | omega | (simp; done) | (simp; omega))⟩
  · rw [show Cp.knownB k = true by rw [hK.out]; simp [g1]]
    (go_enter Tryd.func55, Tryd.ntmps55; go_wp2; go_region; go_wp2)
    exact bodyPost_ret (v := .tuple #[.agg #[.int .i64 0, .int .i64 x1, .int .i64 x2, .int .i64 x3], .bool true]) (by simp [results, Tryd.results55, go_sem]) rfl ⟨rfl, (by repeat' first | with_reducible exact Below.refl _ _ | with_reducible assumption | with_reducible refine belows_drewN ?_ _ | with_reducible refine Below.drew ?_ | with_reducible refine Below.setCell ?_ ?_ _ | with_reducible refine Below.alloc ?_ ?_ _ | omega | (simp; done) | (simp; omega))⟩
  · rw [show Cp.knownB k = true by rw [hK.out]; simp [g2]]
    (go_enter Tryd.func55, Tryd.ntmps55; go_wp2; go_region; go_wp2)
    exact bodyPost_ret (v := .tuple #[.agg #[.int .i64 0, .int .i64 0, .int .i64 x2, .int .i64 x3], .bool true]) (by simp [results, Tryd.results55, go_sem]) rfl ⟨rfl, (by repeat' first | with_reducible exact Below.refl _ _ | with_reducible assumption | with_reducible refine belows_drewN ?_ _ | with_reducible refine Below.drew ?_ | with_reducible refine Below.setCell ?_ ?_ _ | with_reducible refine Below.alloc ?_ ?_ _ | omega | (simp; done) | (simp; omega))⟩
end Go.Proofs.YtljbcclfafndmaaDoor
