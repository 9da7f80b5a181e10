/- Contracts of nameAndDesc and Ref. -/
import Derived.Test.YtljbcclfafndmaaDoorCw
namespace Go.Proofs.YtljbcclfafndmaaDoor
open Go.RowKit

def ndO (l : List Cp.C) (i : Int) : ByteArray × ByteArray × Int := match enA l i 12 with
  | none => (⟨#[]⟩, ⟨#[]⟩, 33)
  | some c => if (txO l c.a).2 = 0 then (if (txO l c.b).2 = 0 then ((txO l c.a).1, (txO l c.b).1, 0) else (⟨#[]⟩, ⟨#[]⟩, (txO l c.b).2)) else (⟨#[]⟩, ⟨#[]⟩, (txO l c.a).2)
def rfO (l : List Cp.C) (i tag : Int) : ByteArray × ByteArray × ByteArray × Int := if tag = 9 ∨ tag = 10 then (match enA l i tag with
    | none => (⟨#[]⟩, ⟨#[]⟩, ⟨#[]⟩, 33)
    | some c => if (clO l c.a).2 = 0 then (if (ndO l c.b).2.2 = 0 then ((clO l c.a).1, (ndO l c.b).1, (ndO l c.b).2.1, 0) else (⟨#[]⟩, ⟨#[]⟩, ⟨#[]⟩, (ndO l c.b).2.2)) else (⟨#[]⟩, ⟨#[]⟩, ⟨#[]⟩, (clO l c.a).2)) else (⟨#[]⟩, ⟨#[]⟩, ⟨#[]⟩, 33)
/-- An entry's box, at its world and later. -/
theorem boxC {w c : World} {t n a b : Int} {s : ByteArray} (h : Below (w.alloc (.cells #[.int .i64 t, .string s, .int .i64 n, .int .i64 a, .int .i64 b] 46)).heap.size (w.alloc (.cells #[.int .i64 t, .string s, .int .i64 n, .int .i64 a, .int .i64 b] 46)) c) : c.cell? ⟨w.heap.size, 3, none⟩ = some (.int .i64 a) ∧ c.cell? ⟨w.heap.size, 4, none⟩ = some (.int .i64 b) ∧ w.heap.size < c.heap.size := by
  have hz := h.size
  rw [World.size_alloc] at hz
  refine ⟨(h.cell (p := ⟨w.heap.size, 3, none⟩) (by simp)).trans ?_, (h.cell (p := ⟨w.heap.size, 4, none⟩) (by simp)).trans ?_, by omega⟩ <;> simp [go_sem]
theorem chainB {a b c : World} {o : Obj} (h1 : Below a.heap.size a b) (h2 : Below (b.alloc o).heap.size (b.alloc o) c) : Below a.heap.size a c := belows (h1.alloc h1.size o) h2 (by rw [World.size_alloc]; have := h1.size; omega)
set_option maxRecDepth 100000 in
set_option maxHeartbeats 1000000 in
theorem nd_at (l : List Cp.C) (i : Int) (v : Value) (w : World) (hv : Kit.IsS 5 w v l.length (l.flatMap cL)) :
    Calls Tryd.prog 46 #[v, .int .i64 i] w fun e w' => e = .returned (.tuple #[.string (ndO l i).1, .string (ndO l i).2.1, .int .i64 (ndO l i).2.2]) ∧ Below w.heap.size w w' := by
  have HE0 := fun W (h : Below w.heap.size w W) => entryAt_any l i 12 v W (hv.below h (Nat.le_refl _))
  have HT0 := fun j W (h : Below w.heap.size w W) => text_at l j v W (hv.below h (Nat.le_refl _))
  unfold ndO
  cases hx : enA l i 12 with
  | none =>
    rw [hx] at HE0
    unfold enV erV Cp.C0 cC at HE0
    dsimp only [Option.getD_none] at HE0
    have HE := hid HE0
    clear HE0 hx hv HT0
    go_enter Tryd.func46, Tryd.ntmps46
    go_wp2_with (go_at_call 44; refine (HE.out _ (by repeat' first | with_reducible exact Below.refl _ _ | with_reducible assumption | with_reducible refine belows_drewN ?_ _ | with_reducible refine Below.drew ?_ | with_reducible refine Below.setCell ?_ ?_ _ | with_reducible refine Below.alloc ?_ ?_ _ | omega | (simp; done) | (simp; omega))).mono ?_; rintro e w1 ⟨rfl, hb1⟩; have hz1 := hb1.size)
    exact bodyPost_ret (v := .tuple #[.string ⟨#[]⟩, .string ⟨#[]⟩, .int .i64 33]) (by simp [results, Tryd.results46, go_sem]) rfl ⟨rfl, (by repeat' first | with_reducible exact Below.refl _ _ | with_reducible assumption | with_reducible refine belows_drewN ?_ _ | with_reducible refine Below.drew ?_ | with_reducible refine Below.setCell ?_ ?_ _ | with_reducible refine Below.alloc ?_ ?_ _ | omega | (simp; done) | (simp; omega))⟩
  | some c =>
    rw [hx] at HE0
    unfold enV erV cC at HE0
    dsimp only [Option.getD_some] at HE0 ⊢
    have HE := hid HE0
    have HA0 := HT0 c.a
    have HB0 := HT0 c.b
    obtain ⟨⟨sa, ae⟩, ha⟩ : ∃ x, x = txO l c.a := ⟨_, rfl⟩
    obtain ⟨⟨sb, be⟩, hb⟩ : ∃ x, x = txO l c.b := ⟨_, rfl⟩
    rw [← ha] at HA0 ⊢
    rw [← hb] at HB0 ⊢
    dsimp only at HA0 HB0 ⊢
    have HA := hid HA0
    have HB := hid HB0
    obtain ⟨ct, cs, cn, ca, cb⟩ := c
    dsimp only at HE HA HB
    clear HE0 hx hv HT0 HA0 HB0 ha hb
    by_cases h1 : ae = 0
    · subst h1
      rw [if_pos rfl]
      by_cases h2 : be = 0
      · subst h2
        rw [if_pos rfl]
        go_enter Tryd.func46, Tryd.ntmps46; go_wp2_with (first | (go_at_call 19; have _g := hb2; (with_reducible refine (HB.out _ ?_).mono ?_); exact (chainB hb1 hb2); rintro e w3 ⟨rfl, hb3⟩) | (go_at_call 19; (with_reducible refine (HA.out _ ?_).mono ?_); exact (hb1.alloc hb1.size _); rintro e w2 ⟨rfl, hb2⟩; obtain ⟨x3, x4, hz2⟩ := boxC hb2) | (go_at_call 44; refine (HE.out _ (by repeat' first | with_reducible exact Below.refl _ _ | with_reducible assumption | with_reducible refine belows_drewN ?_ _ | with_reducible refine Below.drew ?_ | with_reducible refine Below.setCell ?_ ?_ _ | with_reducible refine Below.alloc ?_ ?_ _ | omega | (simp; done) | (simp; omega))).mono ?_; rintro e w1 ⟨rfl, hb1⟩))
        exact bodyPost_ret (v := .tuple #[.string sa, .string sb, .int .i64 0]) (by simp [results, Tryd.results46, go_sem]) rfl ⟨rfl, belows (chainB hb1 hb2) hb3 (chainB hb1 hb2).size⟩
      · rw [if_neg h2]
        have hd : (be != 0) = true := by simpa using h2
        clear h2
        go_enter Tryd.func46, Tryd.ntmps46; go_wp2_with (first | (go_at_call 19; have _g := hb2; (with_reducible refine (HB.out _ ?_).mono ?_); exact (chainB hb1 hb2); rintro e w3 ⟨rfl, hb3⟩) | (go_at_call 19; (with_reducible refine (HA.out _ ?_).mono ?_); exact (hb1.alloc hb1.size _); rintro e w2 ⟨rfl, hb2⟩; obtain ⟨x3, x4, hz2⟩ := boxC hb2) | (go_at_call 44; refine (HE.out _ (by repeat' first | with_reducible exact Below.refl _ _ | with_reducible assumption | with_reducible refine belows_drewN ?_ _ | with_reducible refine Below.drew ?_ | with_reducible refine Below.setCell ?_ ?_ _ | with_reducible refine Below.alloc ?_ ?_ _ | omega | (simp; done) | (simp; omega))).mono ?_; rintro e w1 ⟨rfl, hb1⟩))
        exact bodyPost_ret (v := .tuple #[.string ⟨#[]⟩, .string ⟨#[]⟩, .int .i64 be]) (by simp [results, Tryd.results46, go_sem]) rfl ⟨rfl, belows (chainB hb1 hb2) hb3 (chainB hb1 hb2).size⟩
    · rw [if_neg h1]
      have hd : (ae != 0) = true := by simpa using h1
      clear h1
      go_enter Tryd.func46, Tryd.ntmps46; go_wp2_with (first | (go_at_call 19; have _g := hb2; (with_reducible refine (HB.out _ ?_).mono ?_); exact (chainB hb1 hb2); rintro e w3 ⟨rfl, hb3⟩) | (go_at_call 19; (with_reducible refine (HA.out _ ?_).mono ?_); exact (hb1.alloc hb1.size _); rintro e w2 ⟨rfl, hb2⟩; obtain ⟨x3, x4, hz2⟩ := boxC hb2) | (go_at_call 44; refine (HE.out _ (by repeat' first | with_reducible exact Below.refl _ _ | with_reducible assumption | with_reducible refine belows_drewN ?_ _ | with_reducible refine Below.drew ?_ | with_reducible refine Below.setCell ?_ ?_ _ | with_reducible refine Below.alloc ?_ ?_ _ | omega | (simp; done) | (simp; omega))).mono ?_; rintro e w1 ⟨rfl, hb1⟩))
      exact bodyPost_ret (v := .tuple #[.string ⟨#[]⟩, .string ⟨#[]⟩, .int .i64 ae]) (by simp [results, Tryd.results46, go_sem]) rfl ⟨rfl, chainB hb1 hb2⟩
end Go.Proofs.YtljbcclfafndmaaDoor
