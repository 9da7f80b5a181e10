/- Contract of Method. -/
import Derived.Test.YthhjenmgcbmphaaDoorWs
import Derived.BigRegion
namespace Go.Proofs.YthhjenmgcbmphaaDoor
open Go.RowKit

set_option maxRecDepth 100000 in
set_option maxHeartbeats 1000000 in
theorem method_any (s : ByteArray) (w : World) :
    Calls Tryd.prog 9 #[.string s] w fun e w' => ∃ v, e = .returned (.tuple #[v, tyV (mdOut (Ds.bl s)).2.1.1 (mdOut (Ds.bl s)).2.1.2, .int .i64 (mdOut (Ds.bl s)).2.2]) ∧ MOut s w v w' := by
  have HW := hid (fun W => wholeS_any s W)
  obtain ⟨k, hk⟩ : ∃ k, k = (mdOut (Ds.bl s)).2.1.1 := ⟨_, rfl⟩
  obtain ⟨m, hm⟩ : ∃ m, m = (mdOut (Ds.bl s)).2.1.2 := ⟨_, rfl⟩
  obtain ⟨er, he⟩ : ∃ er, er = (mdOut (Ds.bl s)).2.2 := ⟨_, rfl⟩
  rw [← hk, ← hm, ← he] at HW ⊢
  unfold methodFn at HW
  unfold tyV
  clear hk hm he
  go_enter Tryd.func9, Tryd.ntmps9
  go_wp2_with (go_at_call 24; refine (HW.out _).mono ?_; rintro e w1 ⟨v, rfl, hm1⟩; obtain ⟨sa, sc, rfl⟩ := own_form hm1.1; have HM := hid hm1; have hb1 := hm1.2; obtain ⟨hcc, hff⟩ := bcell hb1; have hz := hb1.size; simp only [World.size_alloc] at hz; have hz1 : w.heap.size < w1.heap.size := (by omega); clear hm1)
  have hR1 : RB w1 w.heap.size := (RB.new w).below hb1 (by simp)
  obtain ⟨n, hn⟩ : ∃ n, n = (mdOut (Ds.bl s)).1.length := ⟨_, rfl⟩
  rw [← hn]
  have hMB : MB (w1.alloc (.cells #[.slice sa n sc, .int .i64 k, .string ⟨m.toArray⟩] 49)) w1.heap.size (.slice sa n sc) k ⟨m.toArray⟩ := World.alloc_heap_new w1 _
  have hba : Below w1.heap.size w1 (w1.alloc (.cells #[.slice sa n sc, .int .i64 k, .string ⟨m.toArray⟩] 49)) := (Below.refl _ _).alloc (Nat.le_refl _) _
  have hRB := hR1.below hba hz1
  obtain ⟨W, hW⟩ : ∃ W, W = w1.alloc (.cells #[.slice sa n sc, .int .i64 k, .string ⟨m.toArray⟩] 49) := ⟨_, rfl⟩
  rw [← hW] at hMB hRB hba ⊢
  obtain ⟨c0, c1, c2, -, -, -⟩ := hMB.facts
  obtain ⟨b0, b1, f0, f1⟩ := hRB.facts
  have HBa := hid hba
  have HN := hid hn
  have hbx := hid (belows (B := w.heap.size) (a := w) (by repeat' first | with_reducible exact Below.refl _ _ | with_reducible assumption | with_reducible refine belows_drewN ?_ _ | with_reducible refine Below.drew ?_ | with_reducible refine Below.setCell ?_ ?_ _ | with_reducible refine Below.alloc ?_ ?_ _ | omega | (simp; done) | (simp; omega)) hb1 (by simp))
  have hne : ¬ w.heap.size = w1.heap.size := by omega
  clear hW hba hn hR1 hMB hRB hcc hff hb1
  go_region
  go_wp2
  refine bodyPost_ret (v := .tuple #[.slice sa n sc, .agg #[.int .i64 k, .string ⟨m.toArray⟩], .int .i64 er]) (by simp [results, Tryd.results9, go_sem, b0, b1]) rfl ⟨_, rfl, ?_, ?_⟩
  · have ho := HM.out.1
    simp only [World.size_alloc] at ho
    rw [← HN.out] at ho
    have h0 := Kit.owns_below ho HBa.out (Nat.le_refl _)
    have h1 := Kit.owns_grown h0 (set_grown W w.heap.size 0 (.int .i64 k)) (by omega)
    have h2 := Kit.owns_grown h1 (set_grown _ w.heap.size 1 (.string ⟨m.toArray⟩)) (by omega)
    exact own_mono (Kit.owns_below h2 ((Below.refl _ _).drew) (Nat.le_refl _)) (by omega)
  · have hx := hbx.out
    have hy := belows hx HBa.out (by omega)
    exact (by repeat' first | with_reducible exact Below.refl _ _ | with_reducible assumption | with_reducible refine belows_drewN ?_ _ | with_reducible refine Below.drew ?_ | with_reducible refine Below.setCell ?_ ?_ _ | with_reducible refine Below.alloc ?_ ?_ _ | omega | (simp; done) | (simp; omega))
end Go.Proofs.YthhjenmgcbmphaaDoor
