/- Contract of the document's one. -/
import Derived.Test.YtljbcclfafndmaaDoorCm
namespace Go.Proofs.YtljbcclfafndmaaDoor
open Go.RowKit

def OnPost (o : Cp.C × Int × Int) (w : World) (e : Ending) (w' : World) : Prop := e = .returned (.tuple #[.agg (cC o.1), .int .i64 o.2.1, .int .i64 o.2.2]) ∧ Below w.heap.size w w'
theorem cf_get (v : Value) (w : World) : (callFunc 36 #[v]).run Tryd.prog w = .ok (.enter 36 #[v]) w := by kernel_rfl
set_option maxRecDepth 100000 in
set_option maxHeartbeats 400000 in
theorem one_nil (last : Bool) (v : Value) (w : World) (hv : Bs w.heap.size w v []) : Calls Tryd.prog 37 #[v, .bool last] w (OnPost (Cp.C0, 0, 30) w) := by
  unfold OnPost cC Cp.C0
  obtain ⟨a, cap, rfl⟩ := hv.len
  clear hv
  go_enter Tryd.func37, Tryd.ntmps37
  go_wp2
  exact bodyPost_ret (v := .tuple #[.agg #[.int .i64 0, .string ⟨#[]⟩, .int .i64 0, .int .i64 0, .int .i64 0], .int .i64 0, .int .i64 30]) (by simp [results, Tryd.results37, go_sem]) rfl ⟨rfl, (by repeat' first | with_reducible exact Below.refl _ _ | with_reducible assumption | with_reducible refine belows_drewN ?_ _ | with_reducible refine Below.drew ?_ | with_reducible refine Below.setCell ?_ ?_ _ | with_reducible refine Below.alloc ?_ ?_ _ | omega | (simp; done) | (simp; omega))⟩
set_option maxRecDepth 100000 in
set_option maxHeartbeats 400000 in
theorem one_tag (last : Bool) (c : UInt8) (r : List UInt8) (v : Value) (w : World) (hv : Bs w.heap.size w v (c :: r)) (hk : Cp.knownB (c.toNat : Int) = false ∨ ((c.toNat : Int) = 5 ∧ last = true)) : Calls Tryd.prog 37 #[v, .bool last] w (OnPost (Cp.C0, 0, 31) w) := by
  unfold OnPost cC Cp.C0
  have HK0 := fun W => known_any (c.toNat : Int) W
  obtain ⟨a, cap, rfl⟩ := hv.len
  obtain ⟨b, o, rfl, hb, hcell⟩ := hv.at (k := 0) (c := c) rfl
  have hn0 : (((c :: r).length : Int) == 0) = false := by rw [beq_eq_false_iff_ne, List.length_cons]; omega
  have hn1 : (0 : Int) < ((c :: r).length : Int) := by rw [List.length_cons]; omega
  obtain ⟨n, hn⟩ : ∃ n, n = (c :: r).length := ⟨_, rfl⟩
  rw [← hn] at hn0 hn1 ⊢
  have hcu := Cp.u8_lt c
  rw [Nat.add_zero] at hcell
  clear hv hn
  cases hkk : Cp.knownB (c.toNat : Int) with
  | false =>
    rw [hkk] at HK0
    have HK := hid HK0
    clear HK0 hkk hk
    go_enter Tryd.func37, Tryd.ntmps37
    go_wp2_with (go_at_call 51; refine (HK.out _).mono ?_; rintro e w1 ⟨rfl, rfl⟩)
    exact bodyPost_ret (v := .tuple #[.agg #[.int .i64 0, .string ⟨#[]⟩, .int .i64 0, .int .i64 0, .int .i64 0], .int .i64 0, .int .i64 31]) (by simp [results, Tryd.results37, go_sem]) rfl ⟨rfl, (by repeat' first | with_reducible exact Below.refl _ _ | with_reducible assumption | with_reducible refine belows_drewN ?_ _ | with_reducible refine Below.drew ?_ | with_reducible refine Below.setCell ?_ ?_ _ | with_reducible refine Below.alloc ?_ ?_ _ | omega | (simp; done) | (simp; omega))⟩
  | true =>
    rw [hkk] at HK0
    obtain ⟨h5, rfl⟩ := hk.resolve_left (by rw [hkk]; simp)
    have hc5 : ((c.toNat : Int) == 5) = true := by simpa using h5
    have HK := hid HK0
    clear HK0 hkk hk h5
    go_enter Tryd.func37, Tryd.ntmps37
    go_wp2_with (go_at_call 51; refine (HK.out _).mono ?_; rintro e w1 ⟨rfl, rfl⟩)
    exact bodyPost_ret (v := .tuple #[.agg #[.int .i64 0, .string ⟨#[]⟩, .int .i64 0, .int .i64 0, .int .i64 0], .int .i64 0, .int .i64 31]) (by simp [results, Tryd.results37, go_sem]) rfl ⟨rfl, (by repeat' first | with_reducible exact Below.refl _ _ | with_reducible assumption | with_reducible refine belows_drewN ?_ _ | with_reducible refine Below.drew ?_ | with_reducible refine Below.setCell ?_ ?_ _ | with_reducible refine Below.alloc ?_ ?_ _ | omega | (simp; done) | (simp; omega))⟩
set_option maxRecDepth 100000 in
set_option maxHeartbeats 400000 in
theorem one_short (last : Bool) (c : UInt8) (r : List UInt8) (v : Value) (w : World) (hv : Bs w.heap.size w v (c :: r)) (hk : Cp.knownB (c.toNat : Int) = true) (hlast : (c.toNat : Int) = 5 → last = false) (hs : r.length < szOf (c.toNat : Int)) : Calls Tryd.prog 37 #[v, .bool last] w (OnPost (Cp.C0, 0, 30) w) := by
  unfold OnPost cC Cp.C0
  have HK0 := fun W => known_any (c.toNat : Int) W
  rw [hk] at HK0
  have HK := hid HK0
  have HZ0 := fun W => size_any (c.toNat : Int) W
  have hz8 : szOf (c.toNat : Int) ≤ 8 := by unfold szOf; split; omega; split <;> omega
  obtain ⟨z, hz⟩ : ∃ z, z = szOf (c.toNat : Int) := ⟨_, rfl⟩
  rw [← hz] at HZ0 hs hz8
  have HZ := hid HZ0
  obtain ⟨a, cap, rfl⟩ := hv.len
  obtain ⟨b, o, rfl, hb, hcell⟩ := hv.at (k := 0) (c := c) rfl
  have hn0 : (((c :: r).length : Int) == 0) = false := by rw [beq_eq_false_iff_ne, List.length_cons]; omega
  have hn1 : (0 : Int) < ((c :: r).length : Int) := by rw [List.length_cons]; omega
  have hn2 : decide (((c :: r).length : Int) < 1 + (z : Int)) = true := by rw [List.length_cons, decide_eq_true_iff]; omega
  obtain ⟨n, hn⟩ : ∃ n, n = (c :: r).length := ⟨_, rfl⟩
  rw [← hn] at hn0 hn1 hn2 ⊢
  have hcu := Cp.u8_lt c
  rw [Nat.add_zero] at hcell
  have hl5 : ((c.toNat : Int) == 5) = false ∨ (((c.toNat : Int) == 5) = true ∧ last = false) := by
    by_cases h : (c.toNat : Int) = 5
    · exact .inr ⟨by simpa using h, hlast h⟩
    · exact .inl (by simpa using h)
  clear hv hn HK0 HZ0 hk hlast hs hz
  rcases hl5 with hl5 | ⟨hl5, rfl⟩
  · go_enter Tryd.func37, Tryd.ntmps37
    go_wp2_with (first | (go_at_call 51; refine (HK.out _).mono ?_; rintro e w1 ⟨rfl, rfl⟩) | (go_at_call 52; refine (HZ.out _).mono ?_; rintro e w1 ⟨rfl, rfl⟩))
    exact bodyPost_ret (v := .tuple #[.agg #[.int .i64 0, .string ⟨#[]⟩, .int .i64 0, .int .i64 0, .int .i64 0], .int .i64 0, .int .i64 30]) (by simp [results, Tryd.results37, go_sem]) rfl ⟨rfl, (by repeat' first | with_reducible exact Below.refl _ _ | with_reducible assumption | with_reducible refine belows_drewN ?_ _ | with_reducible refine Below.drew ?_ | with_reducible refine Below.setCell ?_ ?_ _ | with_reducible refine Below.alloc ?_ ?_ _ | omega | (simp; done) | (simp; omega))⟩
  · go_enter Tryd.func37, Tryd.ntmps37
    go_wp2_with (first | (go_at_call 51; refine (HK.out _).mono ?_; rintro e w1 ⟨rfl, rfl⟩) | (go_at_call 52; refine (HZ.out _).mono ?_; rintro e w1 ⟨rfl, rfl⟩))
    exact bodyPost_ret (v := .tuple #[.agg #[.int .i64 0, .string ⟨#[]⟩, .int .i64 0, .int .i64 0, .int .i64 0], .int .i64 0, .int .i64 30]) (by simp [results, Tryd.results37, go_sem]) rfl ⟨rfl, (by repeat' first | with_reducible exact Below.refl _ _ | with_reducible assumption | with_reducible refine belows_drewN ?_ _ | with_reducible refine Below.drew ?_ | with_reducible refine Below.setCell ?_ ?_ _ | with_reducible refine Below.alloc ?_ ?_ _ | omega | (simp; done) | (simp; omega))⟩
set_option maxRecDepth 100000 in
set_option maxHeartbeats 400000 in
theorem one_int (last : Bool) (r : List UInt8) (v : Value) (w : World) (hv : Bs w.heap.size w v (3 :: r)) (hs : 4 ≤ r.length) : Calls Tryd.prog 37 #[v, .bool last] w (OnPost (⟨3, ⟨#[]⟩, IntKind.i32.wrap (Cp.numI (r.take 4)), 0, 0⟩, 5, 0) w) := by
  unfold OnPost cC
  dsimp only
  have HK := hid (fun W => known_any 3 W)
  rw [show Cp.knownB 3 = true from rfl] at HK
  have HZ := hid (fun W => size_any 3 W)
  rw [show szOf 3 = 4 from rfl] at HZ
  obtain ⟨a, cap, rfl⟩ := hv.len
  obtain ⟨b, o, rfl, hb, hcell⟩ := hv.at (k := 0) (c := 3) rfl
  have hsub := sub_bs hv (i := 1) (j := 5) (by omega) (by rw [List.length_cons]; omega)
  rw [show ((3 :: r).drop 1).take (5 - 1) = r.take 4 from rfl, show 5 - 1 = 4 from rfl] at hsub
  have HG0 := fun W (h : Below w.heap.size w W) => get_any w.heap.size (r.take 4) _ W (hsub.below h (Nat.le_refl _))
  have hcap : (3 :: r).length ≤ cap := by
    rcases hv.2 with ⟨h, -⟩ | ⟨b', o', cap', h, hc, -⟩
    · cases h
    · obtain ⟨-, -, rfl⟩ := Value.slice.inj h; exact hc
  rw [List.length_cons] at hcap
  have hn0 : (((3 :: r).length : Int) == 0) = false := by rw [beq_eq_false_iff_ne, List.length_cons]; omega
  have hn1 : (0 : Int) < ((3 :: r).length : Int) := by rw [List.length_cons]; omega
  have hn2 : decide (((3 :: r).length : Int) < 5) = false := by rw [List.length_cons, decide_eq_false_iff_not]; omega
  obtain ⟨n, hn⟩ : ∃ n, n = (3 :: r).length := ⟨_, rfl⟩
  obtain ⟨z, hz⟩ : ∃ z, z = Cp.numI (r.take 4) := ⟨_, rfl⟩
  rw [← hn] at hn0 hn1 hn2 ⊢
  rw [← hz] at HG0 ⊢
  have hc1 : ¬ cap = 1 := by omega
  have hc5 : (5 : Int) ≤ (cap : Int) := by omega
  have HG := hid HG0
  rw [Nat.add_zero] at hcell
  clear hv hn hz hsub HG0 hs hcap
  go_enter Tryd.func37, Tryd.ntmps37
  go_wp2_with (first | (go_at_call 51; refine (HK.out _).mono ?_; rintro e w1 ⟨rfl, rfl⟩) | (go_at_call 52; refine (HZ.out _).mono ?_; rintro e w1 ⟨rfl, rfl⟩) | (go_at_call 36; refine (HG.out _ (by repeat' first | with_reducible exact Below.refl _ _ | with_reducible assumption | with_reducible refine belows_drewN ?_ _ | with_reducible refine Below.drew ?_ | with_reducible refine Below.setCell ?_ ?_ _ | with_reducible refine Below.alloc ?_ ?_ _ | omega | (simp; done) | (simp; omega))).mono ?_; rintro e w1 ⟨rfl, rfl⟩))
  have h32 : wrap64 (wrap32 z) = IntKind.i32.wrap z := by rw [IntKind.wrap_i32]; unfold wrap64 wrap32; omega
  exact bodyPost_ret (v := .tuple #[.agg #[.int .i64 3, .string ⟨#[]⟩, .int .i64 (wrap64 (wrap32 z)), .int .i64 0, .int .i64 0], .int .i64 5, .int .i64 0]) (by simp [results, Tryd.results37, go_sem]) rfl ⟨by rw [h32], (by repeat' first | with_reducible exact Below.refl _ _ | with_reducible assumption | with_reducible refine belows_drewN ?_ _ | with_reducible refine Below.drew ?_ | with_reducible refine Below.setCell ?_ ?_ _ | with_reducible refine Below.alloc ?_ ?_ _ | omega | (simp; done) | (simp; omega))⟩
set_option maxRecDepth 100000 in
set_option maxHeartbeats 400000 in
theorem one_long (r : List UInt8) (v : Value) (w : World) (hv : Bs w.heap.size w v (5 :: r)) (hs : 8 ≤ r.length) : Calls Tryd.prog 37 #[v, .bool false] w (OnPost (⟨5, ⟨#[]⟩, Cp.numI (r.take 8), 0, 0⟩, 9, 0) w) := by
  unfold OnPost cC
  dsimp only
  have HK := hid (fun W => known_any 5 W)
  rw [show Cp.knownB 5 = true from rfl] at HK
  have HZ := hid (fun W => size_any 5 W)
  rw [show szOf 5 = 8 from rfl] at HZ
  obtain ⟨a, cap, rfl⟩ := hv.len
  obtain ⟨b, o, rfl, hb, hcell⟩ := hv.at (k := 0) (c := 5) rfl
  have hsub := sub_bs hv (i := 1) (j := 9) (by omega) (by rw [List.length_cons]; omega)
  rw [show ((5 :: r).drop 1).take (9 - 1) = r.take 8 from rfl, show 9 - 1 = 8 from rfl] at hsub
  have HG0 := fun W (h : Below w.heap.size w W) => get_any w.heap.size (r.take 8) _ W (hsub.below h (Nat.le_refl _))
  have hcap : (5 :: r).length ≤ cap := by
    rcases hv.2 with ⟨h, -⟩ | ⟨b', o', cap', h, hc, -⟩
    · cases h
    · obtain ⟨-, -, rfl⟩ := Value.slice.inj h; exact hc
  rw [List.length_cons] at hcap
  have hn0 : (((5 :: r).length : Int) == 0) = false := by rw [beq_eq_false_iff_ne, List.length_cons]; omega
  have hn1 : (0 : Int) < ((5 :: r).length : Int) := by rw [List.length_cons]; omega
  have hn2 : decide (((5 :: r).length : Int) < 9) = false := by rw [List.length_cons, decide_eq_false_iff_not]; omega
  obtain ⟨n, hn⟩ : ∃ n, n = (5 :: r).length := ⟨_, rfl⟩
  obtain ⟨z, hz⟩ : ∃ z, z = Cp.numI (r.take 8) := ⟨_, rfl⟩
  rw [← hn] at hn0 hn1 hn2 ⊢
  rw [← hz] at HG0 ⊢
  have hc1 : ¬ cap = 1 := by omega
  have hc5 : (9 : Int) ≤ (cap : Int) := by omega
  have HG := hid HG0
  rw [Nat.add_zero] at hcell
  clear hv hn hz hsub HG0 hs hcap
  go_enter Tryd.func37, Tryd.ntmps37
  go_wp2_with (first | (go_at_call 51; refine (HK.out _).mono ?_; rintro e w1 ⟨rfl, rfl⟩) | (go_at_call 52; refine (HZ.out _).mono ?_; rintro e w1 ⟨rfl, rfl⟩) | (go_at_call 36; refine (HG.out _ (by repeat' first | with_reducible exact Below.refl _ _ | with_reducible assumption | with_reducible refine belows_drewN ?_ _ | with_reducible refine Below.drew ?_ | with_reducible refine Below.setCell ?_ ?_ _ | with_reducible refine Below.alloc ?_ ?_ _ | omega | (simp; done) | (simp; omega))).mono ?_; rintro e w1 ⟨rfl, rfl⟩))
  exact bodyPost_ret (v := .tuple #[.agg #[.int .i64 5, .string ⟨#[]⟩, .int .i64 z, .int .i64 0, .int .i64 0], .int .i64 9, .int .i64 0]) (by simp [results, Tryd.results37, go_sem]) rfl ⟨rfl, (by repeat' first | with_reducible exact Below.refl _ _ | with_reducible assumption | with_reducible refine belows_drewN ?_ _ | with_reducible refine Below.drew ?_ | with_reducible refine Below.setCell ?_ ?_ _ | with_reducible refine Below.alloc ?_ ?_ _ | omega | (simp; done) | (simp; omega))⟩
set_option maxRecDepth 100000 in
set_option maxHeartbeats 400000 in
theorem one_class (last : Bool) (r : List UInt8) (v : Value) (w : World) (hv : Bs w.heap.size w v (7 :: r)) (hs : 2 ≤ r.length) : Calls Tryd.prog 37 #[v, .bool last] w (OnPost (⟨7, ⟨#[]⟩, 0, Cp.numI (r.take 2), 0⟩, 3, 0) w) := by
  unfold OnPost cC
  dsimp only
  have HK := hid (fun W => known_any 7 W)
  rw [show Cp.knownB 7 = true from rfl] at HK
  have HZ := hid (fun W => size_any 7 W)
  rw [show szOf 7 = 2 from rfl] at HZ
  obtain ⟨a, cap, rfl⟩ := hv.len
  obtain ⟨b, o, rfl, hb, hcell⟩ := hv.at (k := 0) (c := 7) rfl
  have hsub := sub_bs hv (i := 1) (j := 3) (by omega) (by rw [List.length_cons]; omega)
  rw [show ((7 :: r).drop 1).take (3 - 1) = r.take 2 from rfl, show 3 - 1 = 2 from rfl] at hsub
  have HG0 := fun W (h : Below w.heap.size w W) => get_any w.heap.size (r.take 2) _ W (hsub.below h (Nat.le_refl _))
  have hcap : (7 :: r).length ≤ cap := by
    rcases hv.2 with ⟨h, -⟩ | ⟨b', o', cap', h, hc, -⟩
    · cases h
    · obtain ⟨-, -, rfl⟩ := Value.slice.inj h; exact hc
  rw [List.length_cons] at hcap
  have hn0 : (((7 :: r).length : Int) == 0) = false := by rw [beq_eq_false_iff_ne, List.length_cons]; omega
  have hn1 : (0 : Int) < ((7 :: r).length : Int) := by rw [List.length_cons]; omega
  have hn2 : decide (((7 :: r).length : Int) < 3) = false := by rw [List.length_cons, decide_eq_false_iff_not]; omega
  obtain ⟨n, hn⟩ : ∃ n, n = (7 :: r).length := ⟨_, rfl⟩
  obtain ⟨z, hz⟩ : ∃ z, z = Cp.numI (r.take 2) := ⟨_, rfl⟩
  rw [← hn] at hn0 hn1 hn2 ⊢
  rw [← hz] at HG0 ⊢
  have hc1 : ¬ cap = 1 := by omega
  have hc5 : (3 : Int) ≤ (cap : Int) := by omega
  have HG := hid HG0
  rw [Nat.add_zero] at hcell
  clear hv hn hz hsub HG0 hs hcap
  go_enter Tryd.func37, Tryd.ntmps37
  go_wp2_with (first | (go_at_call 51; refine (HK.out _).mono ?_; rintro e w1 ⟨rfl, rfl⟩) | (go_at_call 52; refine (HZ.out _).mono ?_; rintro e w1 ⟨rfl, rfl⟩) | (go_at_call 36; refine (HG.out _ (by repeat' first | with_reducible exact Below.refl _ _ | with_reducible assumption | with_reducible refine belows_drewN ?_ _ | with_reducible refine Below.drew ?_ | with_reducible refine Below.setCell ?_ ?_ _ | with_reducible refine Below.alloc ?_ ?_ _ | omega | (simp; done) | (simp; omega))).mono ?_; rintro e w1 ⟨rfl, rfl⟩))
  exact bodyPost_ret (v := .tuple #[.agg #[.int .i64 7, .string ⟨#[]⟩, .int .i64 0, .int .i64 z, .int .i64 0], .int .i64 3, .int .i64 0]) (by simp [results, Tryd.results37, go_sem]) rfl ⟨rfl, (by repeat' first | with_reducible exact Below.refl _ _ | with_reducible assumption | with_reducible refine belows_drewN ?_ _ | with_reducible refine Below.drew ?_ | with_reducible refine Below.setCell ?_ ?_ _ | with_reducible refine Below.alloc ?_ ?_ _ | omega | (simp; done) | (simp; omega))⟩
end Go.Proofs.YtljbcclfafndmaaDoor
