/- Contract of Take. -/
import Derived.Test.YtljbcclfafndmaaDoorCj
namespace Go.Proofs.YtljbcclfafndmaaDoor
open Go.RowKit

theorem txP_err {k : Nat} {bs : List UInt8} {er : Int} (h : txP k bs = .error er) : er ≠ 0 := by
  unfold txP at h
  repeat' split at h
  all_goals cases h
  all_goals decide
theorem enP_err {room : Int} {bs : List UInt8} {er : Int} (h : enP room bs = .error er) : er ≠ 0 := by
  cases bs with
  | nil => unfold enP at h; cases h; decide
  | cons c r =>
    unfold enP at h
    dsimp only at h
    split at h
    · cases h; decide
    · split at h
      · rename_i ht; cases h; exact txP_err ht
      · repeat' split at h
        all_goals cases h
        all_goals decide
theorem plGo_err : ∀ {f n : Nat} {l : List Cp.C} {r : List UInt8} {er : Int}, plGo f n l r = .error er → er ≠ 0
  | 0, _, _, _, _, h => by cases h
  | f + 1, n, l, r, er, h => by
    unfold plGo at h
    split at h
    · split at h
      · rename_i he; cases h; exact enP_err he
      · exact plGo_err h
    · cases h
theorem plP_err {bs : List UInt8} {er : Int} (h : plP bs = .error er) : er ≠ 0 := by
  unfold plP at h
  split at h
  · cases h; decide
  · split at h
    · cases h; decide
    · split at h
      · cases h
      · exact plGo_err h
/-- What Take answers. -/
def tkOut (bs : List UInt8) : List Cp.C × Int × Int := match plP bs with
  | .error er => ([], 0, er)
  | .ok (l, r) => (l, (bs.length : Int) - (r.length : Int), 0)
def TkPost (o : List Cp.C × Int × Int) (w : World) (e : Ending) (w' : World) : Prop := ∃ v, e = .returned (.tuple #[v, .int .i64 o.2.1, .int .i64 o.2.2]) ∧ OwnC w' w.heap.size v o.1 ∧ Below w.heap.size w w'
theorem below_of_grown {w w' : World} (h : w.grownBy w' (some w.heap.size)) : Below w.heap.size w w' := ⟨h.os, h.tape, h.output, h.size, fun i hi => h.block i hi (fun e => by have := Option.some.inj e; omega)⟩
theorem grown_new {w w' : World} {o : Obj} (h1 : (w.alloc o).grownBy w' (some w.heap.size)) : Below w.heap.size w w' := by
  have z := h1.size
  rw [World.size_alloc] at z
  exact ⟨h1.os, h1.tape, h1.output, by omega, fun i hi => (h1.block i (by rw [World.size_alloc]; omega) (fun e => by have := Option.some.inj e; omega)).trans (((Below.refl w.heap.size w).alloc (Nat.le_refl _) _).block i hi)⟩
set_option maxRecDepth 100000 in
set_option maxHeartbeats 400000 in
theorem take_any (bs : List UInt8) (v : Value) (w : World) (ht : Tabs w) (hv : Bs w.heap.size w v bs) :
    Calls Tryd.prog 10 #[v] w (TkPost (tkOut bs) w) := by
  have hrd : Rdr (w.alloc (.cells #[v] 57)) w.heap.size bs := ⟨v, BX.new _ _ _, hv.below ((Below.refl w.heap.size w).alloc (Nat.le_refl _) _) (Nat.le_refl _)⟩
  have HA0 := attempt_any w.heap.size bs _ ht.size (ht.below ((Below.refl w.heap.size w).alloc (Nat.le_refl _) (.cells #[v] 57)) ht.size) hrd
  have hlen := hv.1
  obtain ⟨a, cap, rfl⟩ := hv.len
  unfold TkPost tkOut
  cases hx : plP bs with
  | error er =>
    have hne := plP_err hx
    rw [hx] at HA0
    unfold AtPost at HA0
    dsimp only at HA0 ⊢
    have hd : (er != 0) = true := by simpa using hne
    have HA := hid HA0
    clear HA0 hx hrd hv ht hne
    go_enter Tryd.func10, Tryd.ntmps10
    go_wp2_with (go_at_call 35; refine HA.out.mono ?_; rintro e w2 ⟨rfl, hg2⟩)
    exact bodyPost_ret (v := .tuple #[.slice none 0 0, .int .i64 0, .int .i64 er]) (by simp [results, Tryd.results10, go_sem]) rfl ⟨_, rfl, nilC _ _, grown_new hg2⟩
  | ok y =>
    obtain ⟨l, r⟩ := y
    rw [hx] at HA0
    unfold AtPost at HA0
    dsimp only at HA0 ⊢
    have HA := hid HA0
    clear HA0 hx hrd hv ht
    go_enter Tryd.func10, Tryd.ntmps10
    go_wp2_with (go_at_call 35; refine HA.out.mono ?_; rintro e w2 ⟨v2, rfl, ho2, hs2⟩; have hb2 := grown_new hs2.1; obtain ⟨v3, hc3, hv3⟩ := hs2.2; obtain ⟨a3, cap3, rfl⟩ := hv3.len; have hl3 := hv3.1; have c3 := BX.cell hc3 0; simp at c3; have HO := hid ho2; have HB := hid hb2; clear hs2 hc3 hv3 ho2 hb2)
    have hw : IntKind.i64.wrap ((bs.length : Int) - (r.length : Int)) = (bs.length : Int) - (r.length : Int) := IntWalk.i64_in _ (by omega)
    go_quiet (fail)
    go_wp2
    have hb := HB.out
    refine bodyPost_ret (v := .tuple #[v2, .int .i64 ((bs.length : Int) - (r.length : Int)), .int .i64 0]) (by simp [results, Tryd.results10, go_sem]) rfl ⟨_, rfl, ?_, (by repeat' first | with_reducible exact Below.refl _ _ | with_reducible assumption | with_reducible refine belows_drewN ?_ _ | with_reducible refine Below.drew ?_ | with_reducible refine Below.setCell ?_ ?_ _ | with_reducible refine Below.alloc ?_ ?_ _ | omega | (simp; done) | (simp; omega))⟩
    exact own_mono (Kit.owns_below HO.out (B := w2.heap.size) (by repeat' first | with_reducible exact Below.refl _ _ | with_reducible assumption | with_reducible refine belows_drewN ?_ _ | with_reducible refine Below.drew ?_ | with_reducible refine Below.setCell ?_ ?_ _ | with_reducible refine Below.alloc ?_ ?_ _ | omega | (simp; done) | (simp; omega)) (Nat.le_refl _)) (by rw [World.size_alloc]; omega)
end Go.Proofs.YtljbcclfafndmaaDoor
