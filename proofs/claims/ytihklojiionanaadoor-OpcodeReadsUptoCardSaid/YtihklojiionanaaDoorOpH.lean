/- Contract of One. -/
import Derived.Test.YtihklojiionanaaDoorOpG
namespace Go.Proofs.YtihklojiionanaaDoor
open Go.RowKit

/-- A value that reads as these bytes. -/
def IsB (w : World) (v : Value) (bs : List UInt8) : Prop :=
  bs.length ≤ 140737488355328 ∧ ((bs = [] ∧ ∃ a cap, v = .slice a 0 cap) ∨ (∃ b o cap, v = .slice (some ⟨b, o, none⟩) bs.length cap ∧ bs.length ≤ cap ∧ b < w.heap.size ∧ ∀ i, i < bs.length → w.cell? ⟨b, o + i, none⟩ = some (.int .u8 (Op1.at8 bs i : Nat))))
theorem IsB.below {w w' : World} {v : Value} {bs : List UInt8} (h : IsB w v bs) {B : Nat} (hb : Below B w w') (hB : w.heap.size ≤ B) : IsB w' v bs := by
  refine ⟨h.1, ?_⟩
  rcases h.2 with h | ⟨b, o, cap, hv, hl, hlt, hc⟩
  · exact .inl h
  · exact .inr ⟨b, o, cap, hv, hl, Nat.lt_of_lt_of_le hlt hb.size, fun i hi => (hb.cell (p := ⟨b, o + i, none⟩) (by simp; omega)).trans (hc i hi)⟩
theorem IsB.len {w : World} {v : Value} {bs : List UInt8} (h : IsB w v bs) : ∃ a cap, v = .slice a bs.length cap := by
  rcases h.2 with ⟨rfl, a, cap, rfl⟩ | ⟨b, o, cap, rfl, -⟩
  · exact ⟨a, cap, rfl⟩
  · exact ⟨_, cap, rfl⟩

theorem read_any (op : Int) (p : Nat) (a : Option Addr) (n cap c d : Nat) (w : World) (ht : Tabs w) (hn : n = Op1.bh (Op1.formOf op)) (hc8 : c < 256) (hd8 : d < 256) (hp2 : p ≤ 140737488355328)
    (h1 : 1 ≤ n → ∃ b o, a = some ⟨b, o, none⟩ ∧ w.cell? ⟨b, o, none⟩ = some (.int .u8 c) ∧ (2 ≤ n → w.cell? ⟨b, o + 1, none⟩ = some (.int .u8 d))) :
    Calls Tryd.prog 45 #[.int .i64 op, .int .i64 p, .slice a n cap] w fun e w' =>
      e = .returned (insV ⟨p, op, (Op1.abOf (Op1.formOf op) p c d).1, (Op1.abOf (Op1.formOf op) p c d).2⟩) ∧ Below w.heap.size w w' := by
  have hform := fun W (h : Below w.heap.size w W) => form_any op W (ht.below h ht.size)
  unfold isV at hform
  have hf8 := Op1.formOf_le op
  by_cases hf0 : Op1.formOf op = 0
  · rw [hf0]; exact read_zero op p _ w ht hf0
  · have hn1 : 1 ≤ n := by
      rw [hn]
      exact (show ∀ f, f < 9 → f ≠ 0 → 1 ≤ Op1.bh f by decide +kernel) _ (by omega) hf0
    obtain ⟨b, o, rfl, hc, h2⟩ := h1 hn1
    have hlt := World.block_lt_of_cell? w _ hc
    by_cases hs : Op1.formOf op = 1 ∨ Op1.formOf op = 4 ∨ Op1.formOf op = 8 ∨ Op1.formOf op = 2
    · have := read_one op p (Op1.formOf op) b o n cap c w ht rfl hs hn1 hc8 hc
      have e0 : Op1.abOf (Op1.formOf op) p c d = ((Op1.abOf (Op1.formOf op) p c 0).1, 0) := by
        rcases hs with h | h | h | h <;> rw [h] <;> rfl
      rw [e0]
      exact this
    · have hn2 : 2 ≤ n := by
        rw [hn]
        exact (show ∀ f, f < 9 → f ≠ 0 → ¬ (f = 1 ∨ f = 4 ∨ f = 8 ∨ f = 2) → 2 ≤ Op1.bh f by decide +kernel) _ (by omega) hf0 hs
      have hd := h2 hn2
      have hx1 : 256 * c + d < 65536 := by omega
      have e3 := wrap_i16 (256 * c + d) hx1
      have HP := hid (fun W (h : Below w.heap.size w W) => pair_any b o n cap c d W hn2 hc8 hd8 ((h.cell (p := ⟨b, o, none⟩) hlt).trans hc) ((h.cell (p := ⟨b, o + 1, none⟩) hlt).trans hd))
      have hlo : -32768 ≤ IntKind.i16.wrap ((256 * c + d : Nat) : Int) := by rw [e3]; exact (s16_lo _ hx1).1
      have hhi : IntKind.i16.wrap ((256 * c + d : Nat) : Int) ≤ 32767 := by rw [e3]; exact (s16_lo _ hx1).2
      have all : Op1.formOf op = 3 ∨ Op1.formOf op = 5 ∨ Op1.formOf op = 6 ∨ Op1.formOf op = 7 := by omega
      rcases all with h | h | h | h
      · rw [h] at hform ⊢
        have := read_f3 op p b o n cap (256 * c + d) (Op1.isOp op) w (hid hform) HP hlo hhi
        rw [e3] at this
        exact this
      · rw [h] at hform ⊢
        exact read_f5 op p b o n cap (256 * c + d) (Op1.isOp op) w (hid hform) hx1 HP
      · rw [h] at hform ⊢
        have := read_f6 op p b o n cap (256 * c + d) (Op1.isOp op) w (by omega) (by omega) (hid hform) HP hlo hhi
        rw [e3] at this
        exact this
      · rw [h] at hform ⊢
        have e8 := wrap_i8 d hd8
        have := read_f7 op p b o n cap c d (Op1.isOp op) w hn2 (hid hform) hc hd hlt (hid (by unfold wrap64; omega)) (hid (by rw [e8]; exact wrap64_s8 d hd8))
        rw [e8] at this
        exact this
def oneV (r : Op1.Ins × Int × Int) : Value := .tuple #[insV r.1, .int .i64 r.2.1, .int .i64 r.2.2]
set_option maxRecDepth 100000 in
theorem one_out (a : Option Addr) (n cap : Nat) (p : Int) (w : World) (h : p < 0 ∨ (n : Int) ≤ p) :
    Calls Tryd.prog 23 #[.slice a n cap, .int .i64 p] w fun e w' => e = .returned (oneV (Op1.noIns, 0, 11)) ∧ Below w.heap.size w w' := by
  unfold oneV insV Op1.noIns
  rcases h with h | h
  · have hd : decide (p < 0) = true := by simpa using h
    go_enter Tryd.func23, Tryd.ntmps23
    go_wp2
    exact bodyPost_ret (v := .tuple #[.agg #[.int .i64 0, .int .i64 0, .int .i64 0, .int .i64 0], .int .i64 0, .int .i64 11]) (by simp [results, Tryd.results23, go_sem]) rfl ⟨rfl, (by repeat' first | with_reducible exact Below.refl _ _ | with_reducible assumption | with_reducible refine belows_drewN ?_ _ | with_reducible refine Below.drew ?_ | with_reducible refine Below.setCell ?_ ?_ _ | with_reducible refine Below.alloc ?_ ?_ _ | omega | (simp; done) | (simp; omega))⟩
  · have hd : decide (p < 0) = false := by simp; omega
    go_enter Tryd.func23, Tryd.ntmps23
    go_wp2
    exact bodyPost_ret (v := .tuple #[.agg #[.int .i64 0, .int .i64 0, .int .i64 0, .int .i64 0], .int .i64 0, .int .i64 11]) (by simp [results, Tryd.results23, go_sem]) rfl ⟨rfl, (by repeat' first | with_reducible exact Below.refl _ _ | with_reducible assumption | with_reducible refine belows_drewN ?_ _ | with_reducible refine Below.drew ?_ | with_reducible refine Below.setCell ?_ ?_ _ | with_reducible refine Below.alloc ?_ ?_ _ | omega | (simp; done) | (simp; omega))⟩
set_option maxRecDepth 100000 in
theorem one_noop (b o n cap k c : Nat) (w : World) (hk : k < n) (hc8 : c < 256) (ht : Tabs w) (hc : w.cell? ⟨b, o + k, none⟩ = some (.int .u8 c)) (hop : Op1.isOp c = false) :
    Calls Tryd.prog 23 #[.slice (some ⟨b, o, none⟩) n cap, .int .i64 k] w fun e w' => e = .returned (oneV (Op1.noIns, 0, 10)) ∧ Below w.heap.size w w' := by
  unfold oneV insV Op1.noIns
  have hsize := fun W (h : Below w.heap.size w W) => size_any c W (ht.below h ht.size)
  unfold szV at hsize
  rw [hop] at hsize
  have H := hid hsize
  generalize Op1.szOf (c : Int) = sz at *
  have hlt := World.block_lt_of_cell? w _ hc
  have hd : decide ((k : Int) < 0) = false := by simp
  clear hsize hop ht
  go_enter Tryd.func23, Tryd.ntmps23
  go_wp2_with (go_at_call 12; refine (H.out _ (by repeat' first | with_reducible exact Below.refl _ _ | with_reducible assumption | with_reducible refine belows_drewN ?_ _ | with_reducible refine Below.drew ?_ | with_reducible refine Below.setCell ?_ ?_ _ | with_reducible refine Below.alloc ?_ ?_ _ | omega | (simp; done) | (simp; omega))).mono ?_; rintro e w' ⟨rfl, rfl⟩)
  exact bodyPost_ret (v := .tuple #[.agg #[.int .i64 0, .int .i64 0, .int .i64 0, .int .i64 0], .int .i64 0, .int .i64 10]) (by simp [results, Tryd.results23, go_sem]) rfl ⟨rfl, (by repeat' first | with_reducible exact Below.refl _ _ | with_reducible assumption | with_reducible refine belows_drewN ?_ _ | with_reducible refine Below.drew ?_ | with_reducible refine Below.setCell ?_ ?_ _ | with_reducible refine Below.alloc ?_ ?_ _ | omega | (simp; done) | (simp; omega))⟩
set_option maxRecDepth 100000 in
theorem one_cut (b o n cap k c sz : Nat) (w : World) (hk : k < n) (hn : n ≤ 140737488355328) (hc8 : c < 256) (ht : Tabs w) (hc : w.cell? ⟨b, o + k, none⟩ = some (.int .u8 c)) (hop : Op1.isOp c = true) (hsz : Op1.szOf c = sz) (hcut : n - k < sz) :
    Calls Tryd.prog 23 #[.slice (some ⟨b, o, none⟩) n cap, .int .i64 k] w fun e w' => e = .returned (oneV (Op1.noIns, 0, 11)) ∧ Below w.heap.size w w' := by
  unfold oneV insV Op1.noIns
  have hsize := fun W (h : Below w.heap.size w W) => size_any c W (ht.below h ht.size)
  unfold szV at hsize
  rw [hop, hsz] at hsize
  have H := hid hsize
  have hlt := World.block_lt_of_cell? w _ hc
  have hd : decide ((k : Int) < 0) = false := by simp
  have hd2 : decide ((n : Int) - (k : Int) < (sz : Int)) = true := by simp; omega
  clear hsize hop ht hsz hcut
  go_enter Tryd.func23, Tryd.ntmps23
  go_wp2_with (go_at_call 12; refine (H.out _ (by repeat' first | with_reducible exact Below.refl _ _ | with_reducible assumption | with_reducible refine belows_drewN ?_ _ | with_reducible refine Below.drew ?_ | with_reducible refine Below.setCell ?_ ?_ _ | with_reducible refine Below.alloc ?_ ?_ _ | omega | (simp; done) | (simp; omega))).mono ?_; rintro e w' ⟨rfl, rfl⟩)
  exact bodyPost_ret (v := .tuple #[.agg #[.int .i64 0, .int .i64 0, .int .i64 0, .int .i64 0], .int .i64 0, .int .i64 11]) (by simp [results, Tryd.results23, go_sem]) rfl ⟨rfl, (by repeat' first | with_reducible exact Below.refl _ _ | with_reducible assumption | with_reducible refine belows_drewN ?_ _ | with_reducible refine Below.drew ?_ | with_reducible refine Below.setCell ?_ ?_ _ | with_reducible refine Below.alloc ?_ ?_ _ | omega | (simp; done) | (simp; omega))⟩
end Go.Proofs.YtihklojiionanaaDoor
