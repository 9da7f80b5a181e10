/- Own texts for the claim, part 17. -/
import Derived.Test.YtehjindeggmfpaaGreatDoorZ16
namespace Go.Proofs.YtehjindeggmfpaaGreatDoor
open Go.RowKit

set_option maxRecDepth 100000 in
set_option maxHeartbeats 1000000 in
theorem checkFrame_any (m : Cf.Mb) (cv hv av : Value) (l : List L2.Ds.Ty) (w : World) (hl : Kit.IsS 2 w av l.length (l.flatMap L2.tyC)) :
    Calls Tryz.prog 111 #[mbV m cv hv, av] w fun e w' => e = .returned (.int .i64 (Cf.frE m l)) ∧ Below w.heap.size w w' := by
  have HS0 := fun W (h : Below w.heap.size w W) => L2.slots_any l av W (hl.below h (Nat.le_refl _))
  have HI0 := fun W => isStatic_any m cv hv W
  have hsl : 0 ≤ L2.slotsOf l ∧ L2.slotsOf l ≤ 281474976710656 := by
    have h1 := L2.longs_le l
    have h2 := hl.2.1
    unfold L2.slotsOf
    omega
  unfold Cf.frE
  obtain ⟨b, hb⟩ : ∃ b, b = Cf.statB m := ⟨_, rfl⟩
  obtain ⟨s, hs⟩ : ∃ s, s = L2.slotsOf l := ⟨_, rfl⟩
  rw [← hs] at HS0 hsl ⊢
  rw [← hb] at HI0 ⊢
  have HS := hid HS0
  have HI := hid HI0
  obtain ⟨a, cap, rfl⟩ := hl.len
  obtain ⟨n, hn⟩ : ∃ n, n = l.length := ⟨_, rfl⟩
  rw [← hn] at HS ⊢
  have hw : IntKind.i64.wrap (s + 1) = s + 1 := IntWalk.i64_in _ (by omega)
  obtain ⟨ac, nm, ds, st, lc, co, hs9⟩ := m
  unfold mbV at HI ⊢
  dsimp only at HI ⊢
  clear HS0 HI0 hl hn hs hb
  by_cases h1 : st < 0 ∨ 64 < st ∨ lc < 0 ∨ 64 < lc
  · rw [if_pos h1]
    go_enter Tryz.func111, Tryz.ntmps111
    go_wp2_with (first | (go_at_call 152; refine (HS.out _ (by repeat' first | with_reducible exact Below.refl _ _ | with_reducible assumption | with_reducible refine belows_drewN ?_ _ | with_reducible refine Below.drew ?_ | with_reducible refine Below.setCell ?_ ?_ _ | with_reducible refine Below.alloc ?_ ?_ _ | omega | (simp; done) | (simp; omega))).mono ?_; rintro e w1 ⟨rfl, hb1⟩; obtain ⟨bM, hz1, B1⟩ := belows1 hb1; have m0 := bM.cell 0; have m1 := bM.cell 1; have m2 := bM.cell 2; have m3 := bM.cell 3; have m4 := bM.cell 4; have m5 := bM.cell 5; have m6 := bM.cell 6; simp at m0 m1 m2 m3 m4 m5 m6) | (go_at_call 110; refine (HI.out _).mono ?_; rintro e w2 ⟨rfl, hb2⟩; have B2 := belows B1 hb2 (by omega); have bM2 := bM.below hb2 bM.sz; have m0 := bM2.cell 0; have m4 := bM2.cell 4; simp at m0 m4))
    all_goals go_ret
    all_goals exact ⟨rfl, (by repeat' first | with_reducible exact Below.refl _ _ | with_reducible assumption | with_reducible refine belows_drewN ?_ _ | with_reducible refine Below.drew ?_ | with_reducible refine Below.setCell ?_ ?_ _ | with_reducible refine Below.alloc ?_ ?_ _ | omega | (simp; done) | (simp; omega))⟩
  · rw [if_neg h1]
    have d1 : decide (st < 0) = false := by simp; omega
    have d2 : decide (64 < st) = false := by simp; omega
    have d3 : decide (lc < 0) = false := by simp; omega
    have d4 : decide (64 < lc) = false := by simp; omega
    clear h1
    cases b with
    | true =>
      by_cases h2 : lc < s + 0
      · have d5 : decide (lc < s) = true := by simp; omega
        rw [if_pos (by simpa using h2)]
        go_enter Tryz.func111, Tryz.ntmps111
        go_wp2_with (first | (go_at_call 152; refine (HS.out _ (by repeat' first | with_reducible exact Below.refl _ _ | with_reducible assumption | with_reducible refine belows_drewN ?_ _ | with_reducible refine Below.drew ?_ | with_reducible refine Below.setCell ?_ ?_ _ | with_reducible refine Below.alloc ?_ ?_ _ | omega | (simp; done) | (simp; omega))).mono ?_; rintro e w1 ⟨rfl, hb1⟩; obtain ⟨bM, hz1, B1⟩ := belows1 hb1; have m0 := bM.cell 0; have m1 := bM.cell 1; have m2 := bM.cell 2; have m3 := bM.cell 3; have m4 := bM.cell 4; have m5 := bM.cell 5; have m6 := bM.cell 6; simp at m0 m1 m2 m3 m4 m5 m6) | (go_at_call 110; refine (HI.out _).mono ?_; rintro e w2 ⟨rfl, hb2⟩; have B2 := belows B1 hb2 (by omega); have bM2 := bM.below hb2 bM.sz; have m0 := bM2.cell 0; have m4 := bM2.cell 4; simp at m0 m4))
        go_ret
        exact ⟨rfl, B2⟩
      · have d5 : decide (lc < s) = false := by simp; omega
        rw [if_neg (by simpa using h2)]
        go_enter Tryz.func111, Tryz.ntmps111
        go_wp2_with (first | (go_at_call 152; refine (HS.out _ (by repeat' first | with_reducible exact Below.refl _ _ | with_reducible assumption | with_reducible refine belows_drewN ?_ _ | with_reducible refine Below.drew ?_ | with_reducible refine Below.setCell ?_ ?_ _ | with_reducible refine Below.alloc ?_ ?_ _ | omega | (simp; done) | (simp; omega))).mono ?_; rintro e w1 ⟨rfl, hb1⟩; obtain ⟨bM, hz1, B1⟩ := belows1 hb1; have m0 := bM.cell 0; have m1 := bM.cell 1; have m2 := bM.cell 2; have m3 := bM.cell 3; have m4 := bM.cell 4; have m5 := bM.cell 5; have m6 := bM.cell 6; simp at m0 m1 m2 m3 m4 m5 m6) | (go_at_call 110; refine (HI.out _).mono ?_; rintro e w2 ⟨rfl, hb2⟩; have B2 := belows B1 hb2 (by omega); have bM2 := bM.below hb2 bM.sz; have m0 := bM2.cell 0; have m4 := bM2.cell 4; simp at m0 m4))
        go_ret
        exact ⟨rfl, B2⟩
    | false =>
      by_cases h2 : lc < s + 1
      · have d5 : decide (lc < s + 1) = true := by simp; omega
        rw [if_pos (by simpa using h2)]
        go_enter Tryz.func111, Tryz.ntmps111
        go_wp2_with (first | (go_at_call 152; refine (HS.out _ (by repeat' first | with_reducible exact Below.refl _ _ | with_reducible assumption | with_reducible refine belows_drewN ?_ _ | with_reducible refine Below.drew ?_ | with_reducible refine Below.setCell ?_ ?_ _ | with_reducible refine Below.alloc ?_ ?_ _ | omega | (simp; done) | (simp; omega))).mono ?_; rintro e w1 ⟨rfl, hb1⟩; obtain ⟨bM, hz1, B1⟩ := belows1 hb1; have m0 := bM.cell 0; have m1 := bM.cell 1; have m2 := bM.cell 2; have m3 := bM.cell 3; have m4 := bM.cell 4; have m5 := bM.cell 5; have m6 := bM.cell 6; simp at m0 m1 m2 m3 m4 m5 m6) | (go_at_call 110; refine (HI.out _).mono ?_; rintro e w2 ⟨rfl, hb2⟩; have B2 := belows B1 hb2 (by omega); have bM2 := bM.below hb2 bM.sz; have m0 := bM2.cell 0; have m4 := bM2.cell 4; simp at m0 m4))
        go_ret
        exact ⟨rfl, B2⟩
      · have d5 : decide (lc < s + 1) = false := by simp; omega
        rw [if_neg (by simpa using h2)]
        go_enter Tryz.func111, Tryz.ntmps111
        go_wp2_with (first | (go_at_call 152; refine (HS.out _ (by repeat' first | with_reducible exact Below.refl _ _ | with_reducible assumption | with_reducible refine belows_drewN ?_ _ | with_reducible refine Below.drew ?_ | with_reducible refine Below.setCell ?_ ?_ _ | with_reducible refine Below.alloc ?_ ?_ _ | omega | (simp; done) | (simp; omega))).mono ?_; rintro e w1 ⟨rfl, hb1⟩; obtain ⟨bM, hz1, B1⟩ := belows1 hb1; have m0 := bM.cell 0; have m1 := bM.cell 1; have m2 := bM.cell 2; have m3 := bM.cell 3; have m4 := bM.cell 4; have m5 := bM.cell 5; have m6 := bM.cell 6; simp at m0 m1 m2 m3 m4 m5 m6) | (go_at_call 110; refine (HI.out _).mono ?_; rintro e w2 ⟨rfl, hb2⟩; have B2 := belows B1 hb2 (by omega); have bM2 := bM.below hb2 bM.sz; have m0 := bM2.cell 0; have m4 := bM2.cell 4; simp at m0 m4))
        go_ret
        exact ⟨rfl, B2⟩
set_option maxRecDepth 100000 in
set_option maxHeartbeats 1000000 in
theorem checkName_any (c : Cf.Cl) (vs : Array Value) (m : Cf.Mb) (cv hv : Value) (w : World) (h : ClR w vs c) :
    Calls Tryz.prog 105 #[.agg vs, mbV m cv hv] w fun e w' => e = .returned (.tuple #[ndV (Cf.nmO c.pool m).1, .int .i64 (Cf.nmO c.pool m).2]) ∧ Below w.heap.size w w' := by
  have HM0 := fun W (k : Below w.heap.size w W) => member_any c vs m cv hv W (h.below k (Nat.le_refl _))
  obtain ⟨pv, fv, mv, rfl, -, -, -⟩ := h
  unfold Cf.nmO
  obtain ⟨⟨⟨n1, n2⟩, er⟩, hx⟩ : ∃ x, x = Cf.mbO c.pool m := ⟨_, rfl⟩
  rw [← hx] at HM0 ⊢
  dsimp only at HM0 ⊢
  have HN0 := fun W => L2.memberName_any n1 W
  obtain ⟨me, hme⟩ : ∃ me, me = L2.memE (L2.Ds.bl n1) := ⟨_, rfl⟩
  rw [← hme] at HN0 ⊢
  unfold Cf.accB
  unfold ndV mbV at HM0 ⊢
  have HM := hid HM0
  have HN := hid HN0
  obtain ⟨x, hbx⟩ : ∃ x, x = bits .andNot .i64 m.ac 9 := ⟨_, rfl⟩
  rw [← hbx]
  have hbx2 := hbx.symm
  clear HM0 HN0 hx hme hbx
  by_cases h1 : (x != 0) = true
  · rw [if_pos h1]
    go_enter Tryz.func105, Tryz.ntmps105
    go_wp2
    exact bodyPost_ret (v := .tuple #[.agg #[.string ⟨#[]⟩, .string ⟨#[]⟩, .string ⟨#[]⟩], .int .i64 42]) (by simp [results, Tryz.results105, go_sem]) rfl ⟨rfl, (by repeat' first | with_reducible exact Below.refl _ _ | with_reducible assumption | with_reducible refine belows_drewN ?_ _ | with_reducible refine Below.drew ?_ | with_reducible refine Below.setCell ?_ ?_ _ | with_reducible refine Below.alloc ?_ ?_ _ | omega | (simp; done) | (simp; omega))⟩
  · rw [if_neg h1]
    have h1' : (x != 0) = false := by simpa using h1
    clear h1
    by_cases h2 : er = 0
    · subst h2
      rw [if_neg (by decide)]
      go_enter Tryz.func105, Tryz.ntmps105
      go_wp2_with (go_at_call 24; (with_reducible refine (HM.out _ (by repeat' first | with_reducible exact Below.refl _ _ | with_reducible assumption | with_reducible refine belows_drewN ?_ _ | with_reducible refine Below.drew ?_ | with_reducible refine Below.setCell ?_ ?_ _ | with_reducible refine Below.alloc ?_ ?_ _ | omega | (simp; done) | (simp; omega))).mono ?_); rintro e w1 ⟨rfl, hb1⟩; obtain ⟨bC, bM, bN, hz1, B1⟩ := boxes3 hb1)
      have bN2 := bN.below (w' := w1.alloc (.cells #[.string ⟨#[]⟩, .string n1, .string n2] 44)) ((Below.refl _ _).alloc (Nat.le_refl _) _) bN.sz
      have bS := L3.BX.new w1 #[.string ⟨#[]⟩, .string n1, .string n2] 44
      have B2 : Below w.heap.size w (w1.alloc (.cells #[.string ⟨#[]⟩, .string n1, .string n2] 44)) := (by repeat' first | with_reducible exact Below.refl _ _ | with_reducible assumption | with_reducible refine belows_drewN ?_ _ | with_reducible refine Below.drew ?_ | with_reducible refine Below.setCell ?_ ?_ _ | with_reducible refine Below.alloc ?_ ?_ _ | omega | (simp; done) | (simp; omega))
      have hz2 : w1.heap.size < (w1.alloc (.cells #[.string ⟨#[]⟩, .string n1, .string n2] 44)).heap.size := by simp
      obtain ⟨W, hW⟩ : ∃ W, W = w1.alloc (.cells #[.string ⟨#[]⟩, .string n1, .string n2] 44) := ⟨_, rfl⟩
      rw [← hW] at bN2 bS B2 hz2 ⊢
      obtain ⟨q, hq⟩ : ∃ q, q = w1.heap.size := ⟨_, rfl⟩
      rw [← hq] at bS hz2 ⊢
      have hzN := bN2.sz
      have s0 := bS.cell 0
      have s1 := bS.cell 1
      have s2 := bS.cell 2
      simp at s0 s1 s2
      have f0 := bN2.frozen 0
      have f1 := bN2.frozen 1
      have f2 := bN2.frozen 2
      have n0 := bN2.cell 0
      have n1' := bN2.cell 1
      have n2' := bN2.cell 2
      simp at n0 n1' n2'
      clear hW hq bC bM bN hb1 B1 hz1
      have cfM := fun (u : Value) (w : World) => (show (callFunc 147 #[u]).run Tryz.prog w = .ok (.enter 147 #[u]) w by kernel_rfl)
      go_region_law (refine Kit.step_call1 rfl 147 (.tmp 25) 9 rfl _ rfl (cfM _ _) _ (HN.out _) ?_; rintro e w8 ⟨rfl, hbU⟩; refine ⟨_, rfl, ?_⟩; have B8 : Below W.heap.size W w8 := (by first | exact hbU | exact below_undrew hbU | exact (Below.refl _ _)); have B9 := belows B2 B8 B2.size; have s0 := (B8.cell (p := ⟨q, 0, none⟩) (by simpa using hz2)).trans s0; have s1 := (B8.cell (p := ⟨q, 1, none⟩) (by simpa using hz2)).trans s1; have s2 := (B8.cell (p := ⟨q, 2, none⟩) (by simpa using hz2)).trans s2; have f0 := (B8.frozen (p := ⟨w.heap.size + 1 + 1, 0, none⟩) (by simpa using hzN)).trans f0; have f1 := (B8.frozen (p := ⟨w.heap.size + 1 + 1, 1, none⟩) (by simpa using hzN)).trans f1; have f2 := (B8.frozen (p := ⟨w.heap.size + 1 + 1, 2, none⟩) (by simpa using hzN)).trans f2; have n0 := (B8.cell (p := ⟨w.heap.size + 1 + 1, 0, none⟩) (by simpa using hzN)).trans n0; have n1' := (B8.cell (p := ⟨w.heap.size + 1 + 1, 1, none⟩) (by simpa using hzN)).trans n1'; have n2' := (B8.cell (p := ⟨w.heap.size + 1 + 1, 2, none⟩) (by simpa using hzN)).trans n2')
      all_goals go_wp2
      all_goals exact bodyPost_ret (v := .tuple #[.agg #[.string ⟨#[]⟩, .string n1, .string n2], .int .i64 me]) (by simp [results, Tryz.results105, go_sem, n0, n1', n2']) rfl ⟨rfl, (by repeat' first | with_reducible exact Below.refl _ _ | with_reducible assumption | with_reducible refine belows_drewN ?_ _ | with_reducible refine Below.drew ?_ | with_reducible refine Below.setCell ?_ ?_ _ | with_reducible refine Below.alloc ?_ ?_ _ | omega | (simp; done) | (simp; omega))⟩
    · rw [if_pos h2]
      have hd : (er != 0) = true := by simpa using h2
      clear h2
      go_enter Tryz.func105, Tryz.ntmps105
      go_wp2_with (go_at_call 24; (with_reducible refine (HM.out _ (by repeat' first | with_reducible exact Below.refl _ _ | with_reducible assumption | with_reducible refine belows_drewN ?_ _ | with_reducible refine Below.drew ?_ | with_reducible refine Below.setCell ?_ ?_ _ | with_reducible refine Below.alloc ?_ ?_ _ | omega | (simp; done) | (simp; omega))).mono ?_); rintro e w1 ⟨rfl, hb1⟩; obtain ⟨bC, bM, bN, hz1, B1⟩ := boxes3 hb1; have hz9 : w.heap.size + 1 + 1 < w1.heap.size := (by omega); have n0 := bN.cell 0; have n1' := bN.cell 1; have n2' := bN.cell 2; have f0 := bN.frozen 0; have f1 := bN.frozen 1; have f2 := bN.frozen 2; simp at n0 n1' n2')
      exact bodyPost_ret (v := .tuple #[.agg #[.string ⟨#[]⟩, .string ⟨#[]⟩, .string ⟨#[]⟩], .int .i64 er]) (by simp [results, Tryz.results105, go_sem, n0, n1', n2', World.cell?_alloc_past, hz9]) rfl ⟨rfl, (by repeat' first | with_reducible exact Below.refl _ _ | with_reducible assumption | with_reducible refine belows_drewN ?_ _ | with_reducible refine Below.drew ?_ | with_reducible refine Below.setCell ?_ ?_ _ | with_reducible refine Below.alloc ?_ ?_ _ | omega | (simp; done) | (simp; omega))⟩
end Go.Proofs.YtehjindeggmfpaaGreatDoor
namespace Go.Proofs.YtehjindeggmfpaaGreatDoor
open Go.RowKit

/-- Where the checks of members stand, so many of them being done. -/
structure MJ (w0 : World) (vs : Array Value) (c : Cf.Cl) (ms : List Cf.Mb) (cb qb mb : Nat) (k : Nat) (W : World) : Prop where
  b : Below w0.heap.size w0 W
  cl : ClR w0 vs c
  cx : L3.BX W cb vs 26
  qx : L3.BX W qb #[.map (some mb)] 129
  nm : NmM W mb (Cf.ahead c.pool ms k)
  hc : w0.heap.size ≤ cb
  hq : w0.heap.size ≤ qb
  hm : w0.heap.size ≤ mb
  nc : cb ≠ mb
  nq : qb ≠ mb
theorem MJ.below {w0 : World} {vs : Array Value} {c : Cf.Cl} {ms : List Cf.Mb} {cb qb mb k : Nat} {W W' : World} (h : MJ w0 vs c ms cb qb mb k W) (hb : Below W.heap.size W W') : MJ w0 vs c ms cb qb mb k W' :=
  ⟨belows h.b hb h.b.size, h.cl, h.cx.below hb h.cx.sz, h.qx.below hb h.qx.sz, h.nm.keep (hb.block mb h.nm.lt), h.hc, h.hq, h.hm, h.nc, h.nq⟩
theorem MJ.qc {w0 : World} {vs : Array Value} {c : Cf.Cl} {ms : List Cf.Mb} {cb qb mb k : Nat} {W : World} (h : MJ w0 vs c ms cb qb mb k W) : W.cell? ⟨qb, 0, none⟩ = some (.map (some mb)) := by have := h.qx.cell 0; simpa using this
theorem ahead_snoc {P : List L3.Cp.C} {ms : List Cf.Mb} {k : Nat} {m : Cf.Mb} (h : ms[k]? = some m) : Cf.ahead P ms (k + 1) = Cf.ahead P ms k ++ [(Cf.mbO P m).1] := by
  unfold Cf.ahead
  rw [List.take_add_one, h]
  simp
theorem MJ.next {w0 : World} {vs : Array Value} {c : Cf.Cl} {ms : List Cf.Mb} {cb qb mb k : Nat} {W W' : World} {m : Cf.Mb} (h : MJ w0 vs c ms cb qb mb k W) (hm : ms[k]? = some m) (hg : W.grownBy W' (some mb)) (hn : NmM W' mb (Cf.ahead c.pool ms k ++ [(Cf.mbO c.pool m).1])) : MJ w0 vs c ms cb qb mb (k + 1) W' :=
  ⟨h.b.grown hg h.b.size (fun j e => by cases e; exact h.hm), h.cl, h.cx.grown hg (fun e => h.nc (Option.some.inj e).symm), h.qx.grown hg (fun e => h.nq (Option.some.inj e).symm), by rw [ahead_snoc hm]; exact hn, h.hc, h.hq, h.hm, h.nc, h.nq⟩
theorem MJ.any {w0 : World} {vs : Array Value} {c : Cf.Cl} {ms : List Cf.Mb} {cb qb mb k : Nat} {W W' : World} (h : MJ w0 vs c ms cb qb mb k W) (hg : W.grownBy W' (some mb)) : Below w0.heap.size w0 W' := h.b.grown hg h.b.size (fun j e => by cases e; exact h.hm)
/-- Texts of a pool are short enough to be keys. -/
theorem nil_fits : (⟨#[]⟩ : ByteArray).size ≤ maxLen := by unfold maxLen; decide
theorem tx_fits {P : List L3.Cp.C} (hP : ∀ c ∈ P, c.s.size ≤ 140737488355328) (i : Int) : (L3.txO P i).1.size ≤ maxLen := by
  unfold L3.txO L3.enA L3.enV
  dsimp only
  split
  · split
    · rename_i x hx
      split
      · have := hP x (List.mem_of_getElem? hx)
        unfold maxLen
        simp
        omega
      · unfold maxLen; decide
    · unfold maxLen; decide
  · unfold maxLen; decide
theorem mb_fits {P : List L3.Cp.C} (hP : ∀ c ∈ P, c.s.size ≤ 140737488355328) (m : Cf.Mb) : Fits (Cf.mbO P m).1 := by
  unfold Cf.mbO Fits
  split
  · exact ⟨nil_fits, nil_fits⟩
  · split
    · exact ⟨nil_fits, nil_fits⟩
    · exact ⟨tx_fits hP _, tx_fits hP _⟩
theorem nm_mb {P : List L3.Cp.C} {m : Cf.Mb} (h : (Cf.nmO P m).2 = 0) : (Cf.nmO P m).1 = (Cf.mbO P m).1 := by
  unfold Cf.nmO at h ⊢
  split
  · rename_i h1; rw [if_pos h1] at h; cases h
  · rename_i h1
    rw [if_neg h1] at h
    split
    · rename_i h2; rw [if_pos h2] at h; exact absurd h h2
    · rfl
end Go.Proofs.YtehjindeggmfpaaGreatDoor
namespace Go.Proofs.YtehjindeggmfpaaGreatDoor
open Go.RowKit

def AskPost (w0 : World) (vs : Array Value) (c : Cf.Cl) (ms : List Cf.Mb) (cb qb mb k : Nat) (R : Int → Prop) (e : Ending) (W' : World) : Prop :=
  ∃ er, R er ∧ e = .returned (.int .i64 er) ∧ (er = 0 → MJ w0 vs c ms cb qb mb (k + 1) W') ∧ Below w0.heap.size w0 W'
theorem init_eq (s : ByteArray) : (s.toList == [60, 105, 110, 105, 116, 62]) = decide (s = Cf.initS) := by
  rw [Bool.eq_iff_iff, beq_iff_eq, decide_eq_true_eq]
  constructor
  · intro h
    exact ba_eq (by rw [← ByteArray.toList_eq, h]; rfl)
  · intro h; subst h; rw [ByteArray.toList_eq]; rfl
set_option maxRecDepth 100000 in
set_option maxHeartbeats 2000000 in
theorem askField_any (w0 : World) (vs : Array Value) (c : Cf.Cl) (ms : List Cf.Mb) (cb qb mb k : Nat) (m : Cf.Mb) (cv hv : Value) (W0 : World) (hP : ∀ x ∈ c.pool, x.s.size ≤ 140737488355328) (hl : ms.length < maxLen) (hk : ms[k]? = some m) (hj : MJ w0 vs c ms cb qb mb k W0)
    (hcv : ∃ a cap, cv = .slice a m.code.length cap) (hhv : ∃ a cap, hv = .slice a m.hs.length cap) :
    Calls Tryz.prog 104 #[mbV m cv hv, .pointer (some ⟨cb, 0, none⟩), .pointer (some ⟨qb, 0, none⟩)] W0 (AskPost w0 vs c ms cb qb mb k (Cf.FdIs c.pool ms k)) := by
  obtain ⟨xa, xc, rfl⟩ := hcv
  obtain ⟨ya, yc, rfl⟩ := hhv
  have hn0 := hj.b.size
  have HK0 := fun W (h : Below w0.heap.size w0 W) => checkName_any c vs m (.slice xa m.code.length xc) (.slice ya m.hs.length yc) W (hj.cl.below h (Nat.le_refl _))
  have hr : Cf.FdIs c.pool ms k (Cf.fdE c.pool (Cf.ahead c.pool ms k) m) := ⟨m, hk, rfl⟩
  have hfit := mb_fits hP m
  have hnm := @nm_mb c.pool m
  have hne : ∀ W, MJ w0 vs c ms cb qb mb k W → (Cf.nmO c.pool m).2 = 0 → Calls Tryz.prog 107 #[.map (some mb), ndV (Cf.nmO c.pool m).1] W fun e w' => e = .returned (.int .i64 (if Cf.inB (Cf.nmO c.pool m).1 (Cf.ahead c.pool ms k) = true then 5 else 0)) ∧ ((Cf.inB (Cf.nmO c.pool m).1 (Cf.ahead c.pool ms k) = false) → MJ w0 vs c ms cb qb mb (k + 1) w') ∧ Below w0.heap.size w0 w' := by
    intro W h h0
    rw [hnm h0]
    refine (nadd_any mb (Cf.mbO c.pool m).1 (Cf.ahead c.pool ms k) W h.nm hfit (by unfold Cf.ahead; rw [List.length_map, List.length_take]; omega)).mono ?_
    rintro e w' ⟨rfl, h1, h2⟩
    refine ⟨rfl, fun h3 => ?_, h.any h2⟩
    rw [if_neg (by rw [h3]; decide)] at h1
    exact h.next hk h2 h1
  have J0 := hid hj
  obtain ⟨X, hX⟩ : ∃ X, X = Cf.fdE c.pool (Cf.ahead c.pool ms k) m := ⟨_, rfl⟩
  rw [← hX] at hr
  unfold Cf.fdE Cf.plainM at hX
  obtain ⟨bi, hbi⟩ : ∃ b, b = Cf.inB (Cf.nmO c.pool m).1 (Cf.ahead c.pool ms k) := ⟨_, rfl⟩
  rw [← hbi] at hX hne
  obtain ⟨⟨⟨n1, n2⟩, er⟩, hx⟩ : ∃ x, x = Cf.nmO c.pool m := ⟨_, rfl⟩
  rw [← hx] at HK0 hX hne
  dsimp only at HK0 hX hne
  have HF0 := fun W => L2.field_any n2 W
  obtain ⟨⟨⟨tk, tm⟩, fe⟩, hy⟩ : ∃ y, y = L2.fdOut (L2.Ds.bl n2) := ⟨_, rfl⟩
  rw [← hy] at HF0 hX
  unfold L2.tyV at HF0
  unfold ndV at HK0 hne
  obtain ⟨ac, nm, ds, st, lc, co, hs9⟩ := m
  dsimp only at HF0 hX
  unfold mbV at HK0 ⊢
  dsimp only at HK0 ⊢
  obtain ⟨cl, hcl⟩ : ∃ n, n = co.length := ⟨_, rfl⟩
  obtain ⟨hl9, hhl⟩ : ∃ n, n = hs9.length := ⟨_, rfl⟩
  rw [← hcl] at HK0 hX ⊢
  rw [← hhl] at HK0 hX ⊢
  obtain ⟨pv, fv, mv, hvs, -, -, -⟩ := hj.cl
  have hin := init_eq n1
  obtain ⟨nb, hnb⟩ : ∃ b, b = decide (n1 = Cf.initS) := ⟨_, rfl⟩
  rw [← hnb] at hin
  have HNB := hid hnb
  have HK := hid HK0
  have HF := hid HF0
  have HE := hid hne
  have HR := hid hr
  have HX := hid hX
  unfold AskPost
  have hc0 := J0.out.qc
  have q0 := J0.out.cx.cell 0
  have q1 := J0.out.cx.cell 1
  have q2 := J0.out.cx.cell 2
  have q3 := J0.out.cx.cell 3
  have q4 := J0.out.cx.cell 4
  have q5 := J0.out.cx.cell 5
  have q6 := J0.out.cx.cell 6
  have q7 := J0.out.cx.cell 7
  rw [hvs] at q0 q1 q2 q3 q4 q5 q6 q7
  simp at q0 q1 q2 q3 q4 q5 q6 q7
  have hlt1 := J0.out.cx.sz
  have hlt2 := J0.out.qx.sz
  rw [hvs] at HK
  clear HK0 HF0 hne hr hX hx hy hbi hcl hhl hnb hk hP hl hfit hnm hvs hj
  by_cases h1 : er = 0
  · subst h1
    by_cases h2 : fe = 0
    · subst h2
      have hX2 := HX.out
      rw [if_neg (by decide), if_neg (by decide)] at hX2
      clear HX
      have hN := HNB.out
      cases nb with
      | true =>
        rw [if_pos (.inl (of_decide_eq_true hN.symm))] at hX2
        subst hX2
        clear hN
        (go_enter Tryz.func104, Tryz.ntmps104; go_wp2_with (first | (go_at_call 105; (with_reducible refine (HK.out _ ?_).mono ?_); exact (J0.out.b.alloc hn0 _); rintro e W1 ⟨rfl, hb1⟩; obtain ⟨bM, hzM, B1⟩ := belows1 hb1; have J1 := hid (J0.out.below B1); have c0 := J1.out.qc; have m0 := bM.cell 0; have m1 := bM.cell 1; have m2 := bM.cell 2; have m3 := bM.cell 3; have m4 := bM.cell 4; have m5 := bM.cell 5; have m6 := bM.cell 6; simp at m0 m1 m2 m3 m4 m5 m6; have hW1 : W0.heap.size < W1.heap.size := (by omega); have BMx := hid bM; have BF1 := J1.out.b; have hzq := J1.out.qx.sz; have hzw1 := J1.out.b.size; clear hb1 bM) | (go_at_call 106; (with_reducible refine (HF.out _).mono ?_); rintro e W2 ⟨rfl, hb2⟩; obtain ⟨bS, hzS, B2⟩ := belows1 hb2; have J2 := hid (J1.out.below B2); have c0 := J2.out.qc; have bM := BMx.out.below B2 BMx.out.sz; have m3 := bM.cell 3; have m4 := bM.cell 4; have m5 := bM.cell 5; have m6 := bM.cell 6; have s0 := bS.cell 0; have s1 := bS.cell 1; have s2 := bS.cell 2; simp at m3 m4 m5 m6 s0 s1 s2; have hW2 : W1.heap.size < W2.heap.size := (by omega); have hW3 : W0.heap.size < W2.heap.size := (by omega); have J3 := hid (J2.out.below ((Below.refl W2.heap.size W2).alloc (Nat.le_refl _) (.cells #[.int .i64 tk, .string ⟨tm.toArray⟩] 132))); have c3 := J3.out.qc; have BF2 := J2.out.b; have hzq2 := J2.out.qx.sz; have hzw2 := J2.out.b.size; clear hb2 bM bS) | (go_at_call 107; refine (HE.out _ J3.out (by first | rfl | trivial)).mono ?_; rintro e W3 ⟨rfl, hn3, hB3⟩)); go_ret)
        exact ⟨45, HR.out, rfl, fun h => (by cases h), (by repeat' first | with_reducible exact Below.refl _ _ | with_reducible assumption | with_reducible refine belows_drewN ?_ _ | with_reducible refine Below.drew ?_ | with_reducible refine Below.setCell ?_ ?_ _ | with_reducible refine Below.alloc ?_ ?_ _ | omega | (simp; done) | (simp; omega))⟩
      | false =>
        have hN2 := of_decide_eq_false hN.symm
        clear hN
        by_cases h3 : st = 0
        · subst h3
          by_cases h4 : lc = 0
          · subst h4
            by_cases h5 : cl = 0
            · subst h5
              by_cases h6 : hl9 = 0
              · subst h6
                rw [if_neg (by rintro (h | h); (· exact hN2 h); (· simp at h))] at hX2
                clear hN2
                have HX2 := hid hX2
                clear hX2
                cases bi with
                | true =>
                  have h5 : X = 5 := by have := HX2.out; simpa using this
                  subst h5
                  clear HX2
                  (go_enter Tryz.func104, Tryz.ntmps104; go_wp2_with (first | (go_at_call 105; (with_reducible refine (HK.out _ ?_).mono ?_); exact (J0.out.b.alloc hn0 _); rintro e W1 ⟨rfl, hb1⟩; obtain ⟨bM, hzM, B1⟩ := belows1 hb1; have J1 := hid (J0.out.below B1); have c0 := J1.out.qc; have m0 := bM.cell 0; have m1 := bM.cell 1; have m2 := bM.cell 2; have m3 := bM.cell 3; have m4 := bM.cell 4; have m5 := bM.cell 5; have m6 := bM.cell 6; simp at m0 m1 m2 m3 m4 m5 m6; have hW1 : W0.heap.size < W1.heap.size := (by omega); have BMx := hid bM; have BF1 := J1.out.b; have hzq := J1.out.qx.sz; have hzw1 := J1.out.b.size; clear hb1 bM) | (go_at_call 106; (with_reducible refine (HF.out _).mono ?_); rintro e W2 ⟨rfl, hb2⟩; obtain ⟨bS, hzS, B2⟩ := belows1 hb2; have J2 := hid (J1.out.below B2); have c0 := J2.out.qc; have bM := BMx.out.below B2 BMx.out.sz; have m3 := bM.cell 3; have m4 := bM.cell 4; have m5 := bM.cell 5; have m6 := bM.cell 6; have s0 := bS.cell 0; have s1 := bS.cell 1; have s2 := bS.cell 2; simp at m3 m4 m5 m6 s0 s1 s2; have hW2 : W1.heap.size < W2.heap.size := (by omega); have hW3 : W0.heap.size < W2.heap.size := (by omega); have J3 := hid (J2.out.below ((Below.refl W2.heap.size W2).alloc (Nat.le_refl _) (.cells #[.int .i64 tk, .string ⟨tm.toArray⟩] 132))); have c3 := J3.out.qc; have BF2 := J2.out.b; have hzq2 := J2.out.qx.sz; have hzw2 := J2.out.b.size; clear hb2 bM bS) | (go_at_call 107; refine (HE.out _ J3.out (by first | rfl | trivial)).mono ?_; rintro e W3 ⟨rfl, hn3, hB3⟩)); go_ret)
                  exact ⟨5, HR.out, rfl, fun h => (by cases h), hB3⟩
                | false =>
                  have h5 : X = 0 := by have := HX2.out; simpa using this
                  subst h5
                  clear HX2
                  (go_enter Tryz.func104, Tryz.ntmps104; go_wp2_with (first | (go_at_call 105; (with_reducible refine (HK.out _ ?_).mono ?_); exact (J0.out.b.alloc hn0 _); rintro e W1 ⟨rfl, hb1⟩; obtain ⟨bM, hzM, B1⟩ := belows1 hb1; have J1 := hid (J0.out.below B1); have c0 := J1.out.qc; have m0 := bM.cell 0; have m1 := bM.cell 1; have m2 := bM.cell 2; have m3 := bM.cell 3; have m4 := bM.cell 4; have m5 := bM.cell 5; have m6 := bM.cell 6; simp at m0 m1 m2 m3 m4 m5 m6; have hW1 : W0.heap.size < W1.heap.size := (by omega); have BMx := hid bM; have BF1 := J1.out.b; have hzq := J1.out.qx.sz; have hzw1 := J1.out.b.size; clear hb1 bM) | (go_at_call 106; (with_reducible refine (HF.out _).mono ?_); rintro e W2 ⟨rfl, hb2⟩; obtain ⟨bS, hzS, B2⟩ := belows1 hb2; have J2 := hid (J1.out.below B2); have c0 := J2.out.qc; have bM := BMx.out.below B2 BMx.out.sz; have m3 := bM.cell 3; have m4 := bM.cell 4; have m5 := bM.cell 5; have m6 := bM.cell 6; have s0 := bS.cell 0; have s1 := bS.cell 1; have s2 := bS.cell 2; simp at m3 m4 m5 m6 s0 s1 s2; have hW2 : W1.heap.size < W2.heap.size := (by omega); have hW3 : W0.heap.size < W2.heap.size := (by omega); have J3 := hid (J2.out.below ((Below.refl W2.heap.size W2).alloc (Nat.le_refl _) (.cells #[.int .i64 tk, .string ⟨tm.toArray⟩] 132))); have c3 := J3.out.qc; have BF2 := J2.out.b; have hzq2 := J2.out.qx.sz; have hzw2 := J2.out.b.size; clear hb2 bM bS) | (go_at_call 107; refine (HE.out _ J3.out (by first | rfl | trivial)).mono ?_; rintro e W3 ⟨rfl, hn3, hB3⟩)); go_ret)
                  exact ⟨0, HR.out, rfl, fun _ => hn3 (by first | rfl | trivial), hB3⟩
              · rw [if_pos (.inr (by simp [h6]))] at hX2
                subst hX2
                have d1 : decide (0 < (hl9 : Int)) = true := by simp; omega
                have d2 : decide (0 < hl9) = true := by simp; omega
                clear hN2 h6
                (go_enter Tryz.func104, Tryz.ntmps104; go_wp2_with (first | (go_at_call 105; (with_reducible refine (HK.out _ ?_).mono ?_); exact (J0.out.b.alloc hn0 _); rintro e W1 ⟨rfl, hb1⟩; obtain ⟨bM, hzM, B1⟩ := belows1 hb1; have J1 := hid (J0.out.below B1); have c0 := J1.out.qc; have m0 := bM.cell 0; have m1 := bM.cell 1; have m2 := bM.cell 2; have m3 := bM.cell 3; have m4 := bM.cell 4; have m5 := bM.cell 5; have m6 := bM.cell 6; simp at m0 m1 m2 m3 m4 m5 m6; have hW1 : W0.heap.size < W1.heap.size := (by omega); have BMx := hid bM; have BF1 := J1.out.b; have hzq := J1.out.qx.sz; have hzw1 := J1.out.b.size; clear hb1 bM) | (go_at_call 106; (with_reducible refine (HF.out _).mono ?_); rintro e W2 ⟨rfl, hb2⟩; obtain ⟨bS, hzS, B2⟩ := belows1 hb2; have J2 := hid (J1.out.below B2); have c0 := J2.out.qc; have bM := BMx.out.below B2 BMx.out.sz; have m3 := bM.cell 3; have m4 := bM.cell 4; have m5 := bM.cell 5; have m6 := bM.cell 6; have s0 := bS.cell 0; have s1 := bS.cell 1; have s2 := bS.cell 2; simp at m3 m4 m5 m6 s0 s1 s2; have hW2 : W1.heap.size < W2.heap.size := (by omega); have hW3 : W0.heap.size < W2.heap.size := (by omega); have J3 := hid (J2.out.below ((Below.refl W2.heap.size W2).alloc (Nat.le_refl _) (.cells #[.int .i64 tk, .string ⟨tm.toArray⟩] 132))); have c3 := J3.out.qc; have BF2 := J2.out.b; have hzq2 := J2.out.qx.sz; have hzw2 := J2.out.b.size; clear hb2 bM bS) | (go_at_call 107; refine (HE.out _ J3.out (by first | rfl | trivial)).mono ?_; rintro e W3 ⟨rfl, hn3, hB3⟩)); go_ret)
                exact ⟨45, HR.out, rfl, fun h => (by cases h), (by repeat' first | with_reducible exact Below.refl _ _ | with_reducible assumption | with_reducible refine belows_drewN ?_ _ | with_reducible refine Below.drew ?_ | with_reducible refine Below.setCell ?_ ?_ _ | with_reducible refine Below.alloc ?_ ?_ _ | omega | (simp; done) | (simp; omega))⟩
            · rw [if_pos (.inr (by simp [h5]))] at hX2
              subst hX2
              have d1 : decide (0 < (cl : Int)) = true := by simp; omega
              have d2 : decide (0 < cl) = true := by simp; omega
              clear hN2 h5
              (go_enter Tryz.func104, Tryz.ntmps104; go_wp2_with (first | (go_at_call 105; (with_reducible refine (HK.out _ ?_).mono ?_); exact (J0.out.b.alloc hn0 _); rintro e W1 ⟨rfl, hb1⟩; obtain ⟨bM, hzM, B1⟩ := belows1 hb1; have J1 := hid (J0.out.below B1); have c0 := J1.out.qc; have m0 := bM.cell 0; have m1 := bM.cell 1; have m2 := bM.cell 2; have m3 := bM.cell 3; have m4 := bM.cell 4; have m5 := bM.cell 5; have m6 := bM.cell 6; simp at m0 m1 m2 m3 m4 m5 m6; have hW1 : W0.heap.size < W1.heap.size := (by omega); have BMx := hid bM; have BF1 := J1.out.b; have hzq := J1.out.qx.sz; have hzw1 := J1.out.b.size; clear hb1 bM) | (go_at_call 106; (with_reducible refine (HF.out _).mono ?_); rintro e W2 ⟨rfl, hb2⟩; obtain ⟨bS, hzS, B2⟩ := belows1 hb2; have J2 := hid (J1.out.below B2); have c0 := J2.out.qc; have bM := BMx.out.below B2 BMx.out.sz; have m3 := bM.cell 3; have m4 := bM.cell 4; have m5 := bM.cell 5; have m6 := bM.cell 6; have s0 := bS.cell 0; have s1 := bS.cell 1; have s2 := bS.cell 2; simp at m3 m4 m5 m6 s0 s1 s2; have hW2 : W1.heap.size < W2.heap.size := (by omega); have hW3 : W0.heap.size < W2.heap.size := (by omega); have J3 := hid (J2.out.below ((Below.refl W2.heap.size W2).alloc (Nat.le_refl _) (.cells #[.int .i64 tk, .string ⟨tm.toArray⟩] 132))); have c3 := J3.out.qc; have BF2 := J2.out.b; have hzq2 := J2.out.qx.sz; have hzw2 := J2.out.b.size; clear hb2 bM bS) | (go_at_call 107; refine (HE.out _ J3.out (by first | rfl | trivial)).mono ?_; rintro e W3 ⟨rfl, hn3, hB3⟩)); go_ret)
              exact ⟨45, HR.out, rfl, fun h => (by cases h), (by repeat' first | with_reducible exact Below.refl _ _ | with_reducible assumption | with_reducible refine belows_drewN ?_ _ | with_reducible refine Below.drew ?_ | with_reducible refine Below.setCell ?_ ?_ _ | with_reducible refine Below.alloc ?_ ?_ _ | omega | (simp; done) | (simp; omega))⟩
          · rw [if_pos (.inr (by simp [h4]))] at hX2
            subst hX2
            have d1 : (lc != 0) = true := by simpa using h4
            clear hN2 h4
            (go_enter Tryz.func104, Tryz.ntmps104; go_wp2_with (first | (go_at_call 105; (with_reducible refine (HK.out _ ?_).mono ?_); exact (J0.out.b.alloc hn0 _); rintro e W1 ⟨rfl, hb1⟩; obtain ⟨bM, hzM, B1⟩ := belows1 hb1; have J1 := hid (J0.out.below B1); have c0 := J1.out.qc; have m0 := bM.cell 0; have m1 := bM.cell 1; have m2 := bM.cell 2; have m3 := bM.cell 3; have m4 := bM.cell 4; have m5 := bM.cell 5; have m6 := bM.cell 6; simp at m0 m1 m2 m3 m4 m5 m6; have hW1 : W0.heap.size < W1.heap.size := (by omega); have BMx := hid bM; have BF1 := J1.out.b; have hzq := J1.out.qx.sz; have hzw1 := J1.out.b.size; clear hb1 bM) | (go_at_call 106; (with_reducible refine (HF.out _).mono ?_); rintro e W2 ⟨rfl, hb2⟩; obtain ⟨bS, hzS, B2⟩ := belows1 hb2; have J2 := hid (J1.out.below B2); have c0 := J2.out.qc; have bM := BMx.out.below B2 BMx.out.sz; have m3 := bM.cell 3; have m4 := bM.cell 4; have m5 := bM.cell 5; have m6 := bM.cell 6; have s0 := bS.cell 0; have s1 := bS.cell 1; have s2 := bS.cell 2; simp at m3 m4 m5 m6 s0 s1 s2; have hW2 : W1.heap.size < W2.heap.size := (by omega); have hW3 : W0.heap.size < W2.heap.size := (by omega); have J3 := hid (J2.out.below ((Below.refl W2.heap.size W2).alloc (Nat.le_refl _) (.cells #[.int .i64 tk, .string ⟨tm.toArray⟩] 132))); have c3 := J3.out.qc; have BF2 := J2.out.b; have hzq2 := J2.out.qx.sz; have hzw2 := J2.out.b.size; clear hb2 bM bS) | (go_at_call 107; refine (HE.out _ J3.out (by first | rfl | trivial)).mono ?_; rintro e W3 ⟨rfl, hn3, hB3⟩)); go_ret)
            exact ⟨45, HR.out, rfl, fun h => (by cases h), (by repeat' first | with_reducible exact Below.refl _ _ | with_reducible assumption | with_reducible refine belows_drewN ?_ _ | with_reducible refine Below.drew ?_ | with_reducible refine Below.setCell ?_ ?_ _ | with_reducible refine Below.alloc ?_ ?_ _ | omega | (simp; done) | (simp; omega))⟩
        · rw [if_pos (.inr (by simp [h3]))] at hX2
          subst hX2
          have d1 : (st != 0) = true := by simpa using h3
          clear hN2 h3
          (go_enter Tryz.func104, Tryz.ntmps104; go_wp2_with (first | (go_at_call 105; (with_reducible refine (HK.out _ ?_).mono ?_); exact (J0.out.b.alloc hn0 _); rintro e W1 ⟨rfl, hb1⟩; obtain ⟨bM, hzM, B1⟩ := belows1 hb1; have J1 := hid (J0.out.below B1); have c0 := J1.out.qc; have m0 := bM.cell 0; have m1 := bM.cell 1; have m2 := bM.cell 2; have m3 := bM.cell 3; have m4 := bM.cell 4; have m5 := bM.cell 5; have m6 := bM.cell 6; simp at m0 m1 m2 m3 m4 m5 m6; have hW1 : W0.heap.size < W1.heap.size := (by omega); have BMx := hid bM; have BF1 := J1.out.b; have hzq := J1.out.qx.sz; have hzw1 := J1.out.b.size; clear hb1 bM) | (go_at_call 106; (with_reducible refine (HF.out _).mono ?_); rintro e W2 ⟨rfl, hb2⟩; obtain ⟨bS, hzS, B2⟩ := belows1 hb2; have J2 := hid (J1.out.below B2); have c0 := J2.out.qc; have bM := BMx.out.below B2 BMx.out.sz; have m3 := bM.cell 3; have m4 := bM.cell 4; have m5 := bM.cell 5; have m6 := bM.cell 6; have s0 := bS.cell 0; have s1 := bS.cell 1; have s2 := bS.cell 2; simp at m3 m4 m5 m6 s0 s1 s2; have hW2 : W1.heap.size < W2.heap.size := (by omega); have hW3 : W0.heap.size < W2.heap.size := (by omega); have J3 := hid (J2.out.below ((Below.refl W2.heap.size W2).alloc (Nat.le_refl _) (.cells #[.int .i64 tk, .string ⟨tm.toArray⟩] 132))); have c3 := J3.out.qc; have BF2 := J2.out.b; have hzq2 := J2.out.qx.sz; have hzw2 := J2.out.b.size; clear hb2 bM bS) | (go_at_call 107; refine (HE.out _ J3.out (by first | rfl | trivial)).mono ?_; rintro e W3 ⟨rfl, hn3, hB3⟩)); go_ret)
          exact ⟨45, HR.out, rfl, fun h => (by cases h), (by repeat' first | with_reducible exact Below.refl _ _ | with_reducible assumption | with_reducible refine belows_drewN ?_ _ | with_reducible refine Below.drew ?_ | with_reducible refine Below.setCell ?_ ?_ _ | with_reducible refine Below.alloc ?_ ?_ _ | omega | (simp; done) | (simp; omega))⟩
    · have hX2 := HX.out
      rw [if_neg (by decide), if_pos h2] at hX2
      subst hX2
      have hd : (X != 0) = true := by simpa using h2
      have H2 := hid h2
      clear HX h2
      (go_enter Tryz.func104, Tryz.ntmps104; go_wp2_with (first | (go_at_call 105; (with_reducible refine (HK.out _ ?_).mono ?_); exact (J0.out.b.alloc hn0 _); rintro e W1 ⟨rfl, hb1⟩; obtain ⟨bM, hzM, B1⟩ := belows1 hb1; have J1 := hid (J0.out.below B1); have c0 := J1.out.qc; have m0 := bM.cell 0; have m1 := bM.cell 1; have m2 := bM.cell 2; have m3 := bM.cell 3; have m4 := bM.cell 4; have m5 := bM.cell 5; have m6 := bM.cell 6; simp at m0 m1 m2 m3 m4 m5 m6; have hW1 : W0.heap.size < W1.heap.size := (by omega); have BMx := hid bM; have BF1 := J1.out.b; have hzq := J1.out.qx.sz; have hzw1 := J1.out.b.size; clear hb1 bM) | (go_at_call 106; (with_reducible refine (HF.out _).mono ?_); rintro e W2 ⟨rfl, hb2⟩; obtain ⟨bS, hzS, B2⟩ := belows1 hb2; have J2 := hid (J1.out.below B2); have c0 := J2.out.qc; have bM := BMx.out.below B2 BMx.out.sz; have m3 := bM.cell 3; have m4 := bM.cell 4; have m5 := bM.cell 5; have m6 := bM.cell 6; have s0 := bS.cell 0; have s1 := bS.cell 1; have s2 := bS.cell 2; simp at m3 m4 m5 m6 s0 s1 s2; have hW2 : W1.heap.size < W2.heap.size := (by omega); have hW3 : W0.heap.size < W2.heap.size := (by omega); have J3 := hid (J2.out.below ((Below.refl W2.heap.size W2).alloc (Nat.le_refl _) (.cells #[.int .i64 tk, .string ⟨tm.toArray⟩] 132))); have c3 := J3.out.qc; have BF2 := J2.out.b; have hzq2 := J2.out.qx.sz; have hzw2 := J2.out.b.size; clear hb2 bM bS) | (go_at_call 107; refine (HE.out _ J3.out (by first | rfl | trivial)).mono ?_; rintro e W3 ⟨rfl, hn3, hB3⟩)); go_ret)
      exact ⟨X, HR.out, rfl, fun h => absurd h H2.out, (by repeat' first | with_reducible exact Below.refl _ _ | with_reducible assumption | with_reducible refine belows_drewN ?_ _ | with_reducible refine Below.drew ?_ | with_reducible refine Below.setCell ?_ ?_ _ | with_reducible refine Below.alloc ?_ ?_ _ | omega | (simp; done) | (simp; omega))⟩
  · have hX2 := HX.out
    rw [if_pos h1] at hX2
    subst hX2
    have hd : (X != 0) = true := by simpa using h1
    have H1 := hid h1
    clear HX h1
    (go_enter Tryz.func104, Tryz.ntmps104; go_wp2_with (first | (go_at_call 105; (with_reducible refine (HK.out _ ?_).mono ?_); exact (J0.out.b.alloc hn0 _); rintro e W1 ⟨rfl, hb1⟩; obtain ⟨bM, hzM, B1⟩ := belows1 hb1; have J1 := hid (J0.out.below B1); have c0 := J1.out.qc; have m0 := bM.cell 0; have m1 := bM.cell 1; have m2 := bM.cell 2; have m3 := bM.cell 3; have m4 := bM.cell 4; have m5 := bM.cell 5; have m6 := bM.cell 6; simp at m0 m1 m2 m3 m4 m5 m6; have hW1 : W0.heap.size < W1.heap.size := (by omega); have BMx := hid bM; have BF1 := J1.out.b; have hzq := J1.out.qx.sz; have hzw1 := J1.out.b.size; clear hb1 bM) | (go_at_call 106; (with_reducible refine (HF.out _).mono ?_); rintro e W2 ⟨rfl, hb2⟩; obtain ⟨bS, hzS, B2⟩ := belows1 hb2; have J2 := hid (J1.out.below B2); have c0 := J2.out.qc; have bM := BMx.out.below B2 BMx.out.sz; have m3 := bM.cell 3; have m4 := bM.cell 4; have m5 := bM.cell 5; have m6 := bM.cell 6; have s0 := bS.cell 0; have s1 := bS.cell 1; have s2 := bS.cell 2; simp at m3 m4 m5 m6 s0 s1 s2; have hW2 : W1.heap.size < W2.heap.size := (by omega); have hW3 : W0.heap.size < W2.heap.size := (by omega); have J3 := hid (J2.out.below ((Below.refl W2.heap.size W2).alloc (Nat.le_refl _) (.cells #[.int .i64 tk, .string ⟨tm.toArray⟩] 132))); have c3 := J3.out.qc; have BF2 := J2.out.b; have hzq2 := J2.out.qx.sz; have hzw2 := J2.out.b.size; clear hb2 bM bS) | (go_at_call 107; refine (HE.out _ J3.out (by first | rfl | trivial)).mono ?_; rintro e W3 ⟨rfl, hn3, hB3⟩)); go_ret)
    exact ⟨X, HR.out, rfl, fun h => absurd h H1.out, (by repeat' first | with_reducible exact Below.refl _ _ | with_reducible assumption | with_reducible refine belows_drewN ?_ _ | with_reducible refine Below.drew ?_ | with_reducible refine Below.setCell ?_ ?_ _ | with_reducible refine Below.alloc ?_ ?_ _ | omega | (simp; done) | (simp; omega))⟩
end Go.Proofs.YtehjindeggmfpaaGreatDoor
namespace Go.Proofs.YtehjindeggmfpaaGreatDoor
open Go.RowKit

set_option maxRecDepth 100000 in
set_option maxHeartbeats 2000000 in
theorem firstF_any (w0 : World) (vs : Array Value) (c : Cf.Cl) (ms : List Cf.Mb) (mv : Value) (cb qb mb : Nat) (W0 : World) (hP : ∀ x ∈ c.pool, x.s.size ≤ 140737488355328) (hl : ms.length < maxLen) (hv : MsR w0 mv ms) (hj : MJ w0 vs c ms cb qb mb 0 W0) :
    Calls Tryz.prog 103 #[mv, .func (.func 104) #[] #[.pointer (some ⟨cb, 0, none⟩), .pointer (some ⟨qb, 0, none⟩)]] W0 fun e W' => ∃ er, Cf.FstR (Cf.FdIs c.pool ms) ms.length er ∧ e = .returned (.int .i64 er) ∧ Below w0.heap.size w0 W' := by
  have HA := hid (fun k m cv hv W (hk : ms[k]? = some m) (hj : MJ w0 vs c ms cb qb mb k W) hcv hhv => askField_any w0 vs c ms cb qb mb k m cv hv W hP hl hk hj hcv hhv)
  have HV := hid (fun W (h : Below w0.heap.size w0 W) => hv.below h (Nat.le_refl _))
  obtain ⟨a, cap, rfl⟩ := hv.len
  have J00 := hid hj
  have HL := hid hv.size
  unfold AskPost mbV at HA
  clear hv hj hP hl
  go_enter Tryz.func103, Tryz.ntmps103
  go_wp2
  go_loopw [10] (fun i wr => ∃ k : Nat, k ≤ ms.length ∧ i = .int .i64 k ∧ MJ w0 vs c ms cb qb mb k wr ∧ ∀ j, j < k → Cf.FdIs c.pool ms j 0) (fun i _ => ms.length - (intOf i).toNat)
  case atStart => exact ⟨0, by omega, rfl, J00.out, fun j hj => by omega⟩
  case round =>
    obtain ⟨k, hk, rfl, hJ, hall⟩ := hrel
    have HAll := hid hall
    have hsz := HL.out
    have HJ := hid hJ
    by_cases hlt : k < ms.length
    · obtain ⟨⟨ac, nm, ds, st, lc, co, hs9⟩, hx⟩ : ∃ x, ms[k]? = some x := ⟨ms[k], List.getElem?_eq_getElem hlt⟩
      obtain ⟨b, o, cap', cv, hw, hv2, hbb, hB, hH, hl, c0, c1, c2, c3, c4, c5, c6⟩ := (HV.out wr hJ.b).at hx
      obtain ⟨rfl, -, rfl⟩ := Value.slice.inj hv2
      have hki : (k : Int) < (ms.length : Int) := by omega
      have HX := hid hx
      dsimp only at c0 c1 c2 c3 c4 c5 c6
      obtain ⟨xa, xc, rfl⟩ := hB.len
      obtain ⟨ya, yc, rfl⟩ := hH.len
      have HCv := hid (show ∃ a cap, Value.slice xa co.length xc = .slice a co.length cap from ⟨_, _, rfl⟩)
      have HHv := hid (show ∃ a cap, Value.slice ya hs9.length yc = .slice a hs9.length cap from ⟨_, _, rfl⟩)
      have HBh := hid (And.intro hB (And.intro hH hl))
      clear hx hv2 hall hJ hB hH
      go_wp2_with (go_at_call 104; refine (HA.out k ⟨ac, nm, ds, st, lc, co, hs9⟩ _ _ _ HX.out (HJ.out.below ((Below.refl wr.heap.size wr).alloc (Nat.le_refl _) _)) HCv.out HHv.out).mono ?_; rintro e W1 ⟨er, hR, rfl, hn, hB1⟩; have HR := hid hR; have HN := hid hn; by_cases hz : er = 0; all_goals (first | (subst hz; clear hR hn) | (have hd : (er != 0) = true := (by simpa using hz); have HZ := hid hz; clear hz hR hn)))
      · go_roundw
        case rel => exact ⟨k + 1, by omega, by go_num, HN.out (by first | rfl | trivial), fun j hj => by
          by_cases e : j = k
          · subst e; exact HR.out
          · exact HAll.out j (by omega)⟩
        case measure => simp [intOf]; omega
      · go_ret
        exact ⟨_, Cf.FstR.at HAll.out hlt HR.out HZ.out, rfl, hB1⟩
    · obtain rfl : k = ms.length := by omega
      have hb := HJ.out.b
      clear hJ hall
      go_wp2
      go_ret
      exact ⟨0, Cf.FstR.all HAll.out, rfl, hb⟩
set_option maxRecDepth 100000 in
set_option maxHeartbeats 1000000 in
theorem checkFields_any (c : Cf.Cl) (vs : Array Value) (w : World) (h : ClR w vs c) (hP : ∀ x ∈ c.pool, x.s.size ≤ 140737488355328) :
    Calls Tryz.prog 52 #[.agg vs] w fun e w' => ∃ er, Cf.FstR (Cf.FdIs c.pool c.fs) c.fs.length er ∧ e = .returned (.int .i64 er) ∧ Below w.heap.size w w' := by
  obtain ⟨pv, fv, mv, rfl, hp, hf, hm⟩ := h
  have hcl : ClR w #[.int .i64 c.mi, .int .i64 c.ma, pv, .int .i64 c.ac, .int .i64 c.th, .int .i64 c.su, fv, mv] c := ⟨pv, fv, mv, rfl, hp, hf, hm⟩
  have hl : c.fs.length < maxLen := by have := hf.size; unfold maxLen; omega
  have HF := hid (fun W (hj : MJ w #[.int .i64 c.mi, .int .i64 c.ma, pv, .int .i64 c.ac, .int .i64 c.th, .int .i64 c.su, fv, mv] c c.fs w.heap.size (w.heap.size + 1 + 1) (w.heap.size + 1) 0 W) => firstF_any w _ c c.fs fv w.heap.size (w.heap.size + 1 + 1) (w.heap.size + 1) W hP hl hf hj)
  have hj0 : MJ w #[.int .i64 c.mi, .int .i64 c.ma, pv, .int .i64 c.ac, .int .i64 c.th, .int .i64 c.su, fv, mv] c c.fs w.heap.size (w.heap.size + 1 + 1) (w.heap.size + 1) 0 (((w.alloc (.cells #[.int .i64 c.mi, .int .i64 c.ma, pv, .int .i64 c.ac, .int .i64 c.th, .int .i64 c.su, fv, mv] 26)).alloc (.map #[] 0)).alloc (.cells #[.map (some (w.heap.size + 1))] 129)) := by
    refine ⟨(by repeat' first | with_reducible exact Below.refl _ _ | with_reducible assumption | with_reducible refine belows_drewN ?_ _ | with_reducible refine Below.drew ?_ | with_reducible refine Below.setCell ?_ ?_ _ | with_reducible refine Below.alloc ?_ ?_ _ | omega | (simp; done) | (simp; omega)), hcl, ?_, ?_, ?_, Nat.le_refl _, by omega, by omega, by omega, by omega⟩
    · exact ((L3.BX.new w _ _).below (n := w.heap.size + 1) ((Below.refl _ _).alloc (by simp) _) (by omega)).below (n := w.heap.size + 1) ((Below.refl _ _).alloc (by simp) _) (by omega)
    · have := L3.BX.new ((w.alloc (.cells #[.int .i64 c.mi, .int .i64 c.ma, pv, .int .i64 c.ac, .int .i64 c.th, .int .i64 c.su, fv, mv] 26)).alloc (.map #[] 0)) #[.map (some (w.heap.size + 1))] 129
      simpa using this
    · have := NmM.new (w.alloc (.cells #[.int .i64 c.mi, .int .i64 c.ma, pv, .int .i64 c.ac, .int .i64 c.th, .int .i64 c.su, fv, mv] 26))
      simp only [World.size_alloc] at this
      exact this.keep (((Below.refl _ _).alloc (Nat.le_refl _) _).block _ (by simp))
  have HJ0 := hid hj0
  have hmm := @run_makeMap Tryz.prog
  clear hj0 hcl hp hP hl
  obtain ⟨fa, fc, rfl⟩ := hf.len
  obtain ⟨ma2, mc, rfl⟩ := hm.len
  clear hf hm
  go_enter Tryz.func52, Tryz.ntmps52
  go_wp2_with (go_at_call 103; refine (HF.out _ HJ0.out).mono ?_; rintro e W1 ⟨er, hR, rfl, hB1⟩)
  go_ret
  exact ⟨_, hR, rfl, hB1⟩
end Go.Proofs.YtehjindeggmfpaaGreatDoor
