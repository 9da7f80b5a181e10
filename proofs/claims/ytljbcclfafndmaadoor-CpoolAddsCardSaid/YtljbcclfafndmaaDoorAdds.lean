/- CpoolAdds: what Find and Add answer is what the document's do, and All tells what a pool holds. -/
import Derived.Test.YtljbcclfafndmaaDoorDo
import Derived.Test.YtljbcclfafndmaaDoorDp
import Derived.Test.YtljbcclfafndmaaDoorDd
import Derived.Test.YtljbcclfafndmaaDoorOpn
namespace Go.Proofs.YtljbcclfafndmaaDoor
open Go.RowKit

theorem AdIs.len {l : List Cp.C} {c : Cp.C} {m : List Cp.C} {i : Nat} {er : Int} (h : AdIs l c m i er) : m.length ≤ 4096 := by
  rcases h with ⟨-, -, rfl, -⟩ | ⟨h1, ⟨-, -, rfl, -⟩ | ⟨-, ⟨-, -, rfl⟩ | ⟨-, ⟨-, -, rfl, -⟩ | ⟨h, -, rfl, -⟩⟩⟩⟩
  · simp
  · simp
  · exact (ck_size h1).1
  · simp
  · exact h
set_option maxRecDepth 100000 in
set_option maxHeartbeats 4000000 in
theorem adds_law (l : List Cp.C) (c : Cp.C) (stop : Int) (v : Value) (w : World) (ht : Tabs w) (hv : Kit.IsS 5 w v l.length (l.flatMap cL)) (hg : ∀ x ∈ l, GoodC x) (hc : GoodC c) (hn : l.length * 48 ≤ 140737488351232) :
    Calls Tryd.prog 6 #[v, .agg (cC c), .int .i64 stop] w fun e w' => e = .returned (.bool true) ∧ Below w.heap.size w w' := by
  have hs0 := ht.size
  have hn' : l.length * 48 ≤ 140737488355328 := by omega
  have HT := hid (fun W (h : Below w.heap.size w W) => ht.below h ht.size)
  have HV := hid (fun W (h : Below w.heap.size w W) => hv.below h (Nat.le_refl _))
  have HF := hid (fun W (h : Below w.heap.size w W) => find_any l c v W (HV.out W h) hn')
  have HR := hid (fun W (h : Below w.heap.size w W) => rfind_any l c v W (HV.out W h))
  have HA := hid (fun W (h : Below w.heap.size w W) => add_any l c v W (HT.out W h) (HV.out W h) (fun x hx => (hg x hx).s) hc.s hn')
  have HB := hid (fun W (h : Below w.heap.size w W) => radd_any l c v W (HV.out W h) (fun x hx => ⟨(hg x hx).s, (hg x hx).n⟩) hc.s hc.n hn')
  have HTe := hid (fun stop W (h : Below w.heap.size w W) => tells_any l v stop W (HV.out W h) hn')
  obtain ⟨a, cap, rfl⟩ := hv.len
  obtain ⟨t, s, n, ca, cb⟩ := c
  unfold cC at HF HR HA HB ⊢
  dsimp only at HF HR HA HB ⊢
  clear ht hv hg hc hn hn'
  go_enter Tryd.func6, Tryd.ntmps6
  go_wp2_with (first
    | (go_at_call 27; refine (HF.out _ (by repeat' first | with_reducible exact Below.refl _ _ | with_reducible assumption | with_reducible refine belows_drewN ?_ _ | with_reducible refine Below.drew ?_ | with_reducible refine Below.setCell ?_ ?_ _ | with_reducible refine Below.alloc ?_ ?_ _ | omega | (simp; done) | (simp; omega))).mono ?_; rintro e w1 ⟨r, b, hF, rfl, hb1⟩; have B1 := belows (B := w.heap.size) (a := w) ((Below.refl _ w).alloc (Nat.le_refl _) _) hb1 (by simp); have bx1 := (BX.new w #[.int .i64 t, .string s, .int .i64 n, .int .i64 ca, .int .i64 cb] 46).below hb1 (by simp); have c0 := bx1.cell 0; have c1 := bx1.cell 1; have c2 := bx1.cell 2; have c3 := bx1.cell 3; have c4 := bx1.cell 4; simp at c0 c1 c2 c3 c4; have HFd := hid hF; clear hF hb1)
    | (go_at_call 28; refine (HR.out _ B1).mono ?_; rintro e w2 ⟨r2, b2, hF, rfl, hb2⟩; obtain ⟨rfl, rfl⟩ := FiIs.det hF HFd.out; have B2 := belows B1 hb2 B1.size; have bx2 := bx1.below hb2 bx1.sz; have d0 := bx2.cell 0; have d1 := bx2.cell 1; have d2 := bx2.cell 2; have d3 := bx2.cell 3; have d4 := bx2.cell 4; simp at d0 d1 d2 d3 d4; clear hF hb2)
    | (go_at_call 29; refine (HA.out _ B2).mono ?_; rintro e w3 ⟨m, i, er, v3, hA, rfl, o3, hb3⟩; have HS3 := hid (Kit.isS_of_owns o3 (by have := hA.len; omega)); obtain ⟨a3, cap3, rfl⟩ := own_form o3; have B3 := belows B2 hb3 B2.size; have bx3 := bx2.below hb3 bx2.sz; have e0 := bx3.cell 0; have e1 := bx3.cell 1; have e2 := bx3.cell 2; have e3 := bx3.cell 3; have e4 := bx3.cell 4; simp at e0 e1 e2 e3 e4; have HAd := hid hA; clear hA hb3 o3)
    | (go_at_call 30; refine (HB.out _ B3).mono ?_; rintro e w4 ⟨m', i', er', v4, hA, rfl, o4, hb4⟩; obtain ⟨rfl, rfl, rfl⟩ := AdIs.det hA HAd.out; have HS4 := hid (Kit.isS_of_owns o4 (by have := hA.len; omega)); obtain ⟨a4, cap4, rfl⟩ := own_form o4; have B4 := belows B3 hb4 B3.size; have HQ3 := hid (HS3.out.below hb4 (Nat.le_refl _)); clear hA hb4 o4)
    | (go_at_call 12; refine (live_any _ (HT.out _ B4)).mono ?_; rintro e w5 ⟨rfl, hb5⟩; have B5 := belows B4 hb5 B4.size)
    | (go_at_call 13; refine (same_any _ _ _ _ (HQ3.out.below hb5 (Nat.le_refl _)) (HS4.out.below hb5 (Nat.le_refl _))).mono ?_; rintro e w6 ⟨rfl, hb6⟩; have B6 := belows B5 hb6 B5.size)
    | (go_at_call 31; have _g := B7; refine (HTe.out _ _ B7).mono ?_; rintro e w8 ⟨rfl, hb8⟩; have B8 := belows B7 hb8 B7.size)
    | (go_at_call 31; refine (HTe.out _ _ B6).mono ?_; rintro e w7 ⟨rfl, hb7⟩; have B7 := belows B6 hb7 B6.size))
  all_goals go_ret
  all_goals exact ⟨by first | rfl | simp, B8⟩
end Go.Proofs.YtljbcclfafndmaaDoor
