/- Contract of attempt. -/
import Derived.Test.YtljbcclfafndmaaDoorCi
namespace Go.Proofs.YtljbcclfafndmaaDoor
open Go.RowKit

def AtPost (pb : Nat) (x : Except Int (List Cp.C × List UInt8)) (w : World) (e : Ending) (w' : World) : Prop := match x with
  | .error er => e = .returned (.tuple #[.slice none 0 0, .int .i64 er]) ∧ w.grownBy w' (some pb)
  | .ok (l, r) => ∃ v, e = .returned (.tuple #[v, .int .i64 0]) ∧ OwnC w' w.heap.size v l ∧ Stp pb r w w'
theorem A.mkF (fn : Fn) (first cap : Array Value) (w : World) : (Instr.makeFunc fn first cap).run Tryd.prog w = .ok (.func fn first cap) w := rfl
theorem own_mono {w : World} {base base' : Nat} {e : TypeId} {size : Nat} {v : Value} {n : Nat} {xs : List Value} (h : w.ownsRow base e size v n xs) (hb : base' ≤ base) : w.ownsRow base' e size v n xs := by
  obtain ⟨h1, h2⟩ := h
  refine ⟨h1, ?_⟩
  rcases h2 with h2 | ⟨g, cap, cur, hv, hg, r⟩
  · exact .inl h2
  · exact .inr ⟨g, cap, cur, hv, by omega, r⟩
theorem Stp.alloc {pb : Nat} {bs : List UInt8} {w w' : World} {o : Obj} (h : Stp pb bs (w.alloc o) w') : Stp pb bs w w' := by
  have h1 := h.1
  have z := h1.size
  rw [World.size_alloc] at z
  exact ⟨⟨h1.os, h1.tape, h1.output, by omega, fun i hi hne => (h1.block i (by rw [World.size_alloc]; omega) hne).trans (((Below.refl w.heap.size w).alloc (Nat.le_refl _) _).block i hi)⟩, h.2⟩
theorem grown_alloc {pb : Nat} {w w' : World} {o : Obj} (h1 : (w.alloc o).grownBy w' (some pb)) : w.grownBy w' (some pb) := by
  have z := h1.size
  rw [World.size_alloc] at z
  exact ⟨h1.os, h1.tape, h1.output, by omega, fun i hi hne => (h1.block i (by rw [World.size_alloc]; omega) hne).trans (((Below.refl w.heap.size w).alloc (Nat.le_refl _) _).block i hi)⟩
theorem grown_set {pb B : Nat} {w w' : World} (h : w.grownBy w' (some pb)) (hB : w.heap.size ≤ B) (j : Nat) (u : Value) : w.grownBy (w'.setCell ⟨B, j, none⟩ u) (some pb) := by
  have hg := set_grown w' B j u
  exact ⟨h.os, h.tape, h.output, by rw [World.size_setCell]; exact h.size, fun i hi hne => (hg.block i (Nat.lt_of_lt_of_le hi h.size) (fun e => by have := Option.some.inj e; omega)).trans (h.block i hi hne)⟩
set_option maxRecDepth 100000 in
set_option maxHeartbeats 400000 in
theorem attempt_any (pb : Nat) (bs : List UInt8) (w : World) (hp : 1 ≤ pb) (ht : Tabs w) (hr : Rdr w pb bs) :
    Calls Tryd.prog 35 #[.pointer (some ⟨pb, 0, none⟩)] w (AtPost pb (plP bs) w) := by
  have hps := hr.sz
  have HP0 := fun W (h : Below w.heap.size w W) => pool_any pb bs W hp (ht.below h (by omega)) (hr.below h hps)
  cases hx : plP bs with
  | error er =>
    rw [hx] at HP0
    unfold PlPost Bad pan at HP0
    dsimp only at HP0
    unfold AtPost
    have HP := hid HP0
    have hmf := A.mkF
    clear HP0 hx ht hr
    go_enter_defers Tryd.func35, Tryd.ntmps35
    go_wp2_with (go_at_call 50; refine (HP.out _ (by repeat' first | with_reducible exact Below.refl _ _ | with_reducible assumption | with_reducible refine belows_drewN ?_ _ | with_reducible refine Below.drew ?_ | with_reducible refine Below.setCell ?_ ?_ _ | with_reducible refine Below.alloc ?_ ?_ _ | omega | (simp; done) | (simp; omega))).mono ?_; rintro e w2 ⟨rfl, hg2⟩; have hbx := (BX.new w #[.int .i64 0] 24).grown hg2 (by simp; omega); have e0 := hbx.cell 0; have e1 := hbx.frozen 0; simp at e0)
    refine leaves_cons (f := 49) (args := #[.pointer (some ⟨w.heap.size, 0, none⟩)]) (by simp) (by simp [go_sem]) ?_
    refine (catch_panicking ⟨w.heap.size, 0, none⟩ (.int .i64 0) er [] _ e0 e1).mono ?_
    rintro e u' w'' ⟨rfl, rfl, rfl⟩
    refine ⟨.tuple #[.slice none 0 0, .int .i64 er], by simp [results, Tryd.results35, go_sem, e0], rfl, ?_⟩
    exact grown_set (grown_alloc hg2) (Nat.le_refl _) 0 _
  | ok y =>
    obtain ⟨l, r⟩ := y
    rw [hx] at HP0
    unfold PlPost at HP0
    dsimp only at HP0
    unfold AtPost
    have HP := hid HP0
    have hmf := A.mkF
    clear HP0 hx ht hr
    go_enter_defers Tryd.func35, Tryd.ntmps35
    go_wp2_with (go_at_call 50; refine (HP.out _ (by repeat' first | with_reducible exact Below.refl _ _ | with_reducible assumption | with_reducible refine belows_drewN ?_ _ | with_reducible refine Below.drew ?_ | with_reducible refine Below.setCell ?_ ?_ _ | with_reducible refine Below.alloc ?_ ?_ _ | omega | (simp; done) | (simp; omega))).mono ?_; rintro e w2 ⟨v, rfl, ho2, hs2⟩; have hbx := (BX.new w #[.int .i64 0] 24).grown hs2.1 (by simp; omega); have e0 := hbx.cell 0; have e1 := hbx.frozen 0; simp at e0)
    refine leaves_cons (f := 49) (args := #[.pointer (some ⟨w.heap.size, 0, none⟩)]) (by simp) (by simp [go_sem]) ?_
    refine (catch_idle ⟨w.heap.size, 0, none⟩ _).mono ?_
    rintro e u' w'' ⟨rfl, rfl, rfl⟩
    refine ⟨.tuple #[v, .int .i64 0], by simp [results, Tryd.results35, go_sem, e0], _, rfl, ?_, ?_⟩
    · have hlt : w.heap.size < (w.alloc (.cells #[.int .i64 0] 24)).heap.size := by rw [World.size_alloc]; omega
      exact own_mono (Kit.owns_grown ho2 (set_grown _ w.heap.size 0 _) hlt) (by omega)
    · exact hs2.alloc.set (Nat.le_refl _) hps 0 _
end Go.Proofs.YtljbcclfafndmaaDoor
