/- Own texts for the claim, part 3. -/
import Derived.Test.YtlbkhmfgbonelaaDoorZP2
import Derived.Lib.SliceRun
import Derived.Deep.WholeRow
namespace Go.Proofs.YtlbkhmfgbonelaaDoor
open Go Go.RowKit
open Kit (natVals)

theorem infoI : (Tryd.prog.info? 3).map (fun i => (i.zero, i.size, i.bytes)) = some (some (.int .i64 0), 1, 8) := by kernel_rfl
theorem info_parts {P : Program} {t : TypeId} {z : Option Value} {s b : Nat} (h : (P.info? t).map (fun i => (i.zero, i.size, i.bytes)) = some (z, s, b)) : ∃ i, P.info? t = some i ∧ i.zero = z ∧ i.size = s ∧ i.bytes = b := by
  cases hi : P.info? t with
  | none => rw [hi] at h; simp at h
  | some i =>
    rw [hi] at h
    simp only [Option.map_some, Option.some.injEq, Prod.mk.injEq] at h
    exact ⟨i, rfl, h.1, h.2.1, h.2.2⟩
theorem natVals_one (l : List Nat) : ∀ u ∈ natVals l, u.oneCell' = true := by
  intro u hu
  unfold natVals at hu
  obtain ⟨n, -, rfl⟩ := List.mem_map.1 hu
  rfl
section
variable {w : World} {base : Nat} {H : HV} {P D : Nat → Nat}
set_option maxRecDepth 100000
end
end Go.Proofs.YtlbkhmfgbonelaaDoor
namespace Go.Proofs.YtlbkhmfgbonelaaDoor
open Go Go.RowKit
open Kit (natVals)

theorem HM.drewN {w : World} {base : Nat} {H : HV} (h : HM w base H) (m : Nat) : HM (w.drewN m) base H := h.below (below_drewN w m)
theorem dn2 (w : World) (m n : Nat) : (w.drewN m).drewN n = w.drewN (m + n) := by simp [World.drewN, Nat.add_assoc]
theorem com_step {P D : Nat → Nat} {n i j : Nat} (t : Hi.Tr n P D) (hi : i < n) (hd : D i = D j) (hne : i ≠ j) (hj : j < n) : 1 ≤ i ∧ 1 ≤ j ∧ Hi.com P (D i) i j = Hi.com P (D (P i)) (P i) (P j) ∧ D (P i) = D (P j) ∧ D i = D (P i) + 1 := by
  have hi1 : 1 ≤ i := by
    rcases Nat.eq_zero_or_pos i with rfl | h1
    · have := t.zero
      have := t.root hj (by omega)
      omega
    · exact h1
  have hj1 : 1 ≤ j := by
    rcases Nat.eq_zero_or_pos j with rfl | h1
    · have := t.zero
      have := t.root hi (by omega)
      omega
    · exact h1
  have e1 := t.dep i hi1 hi
  have e2 := t.dep j hj1 hj
  refine ⟨hi1, hj1, ?_, by omega, e1⟩
  rw [e1]
  show (if i = j then i else Hi.com P (D (P i)) (P i) (P j)) = _
  rw [if_neg hne]
section
variable {w : World} {base : Nat} {H : HV} {P D : Nat → Nat}
def HV.commonO (H : HV) (P D : Nat → Nat) (a b : Int) : Int := if (isC H.n a && isC H.n b) = true then ((Hi.cm P D a.toNat b.toNat : Nat) : Int) else -1
set_option maxRecDepth 100000 in
set_option maxHeartbeats 1000000 in
theorem Common_any (h : HM w base H) (ok : HOk H P D) (a b : Int) : Calls Tryd.prog 65 #[.pointer (some ⟨H.hb, 0, none⟩), .int .i64 a, .int .i64 b] w fun e w' => e = .returned (.int .i64 (H.commonO P D a b)) ∧ ∃ m, w' = w.drewN m := by
  have HA := has_any h a
  have HB := has_any h b
  obtain ⟨k0, -, -⟩ := h.cells
  unfold HV.commonO
  change Calls _ _ _ _ fun e w' => e = .returned (.bool (isC H.n a)) ∧ w = w' at HA
  change Calls _ _ _ _ fun e w' => e = .returned (.bool (isC H.n b)) ∧ w = w' at HB
  obtain ⟨g, p, hc, -, hs⟩ := h.sight ok.tr.pos
  rw [hc] at k0
  cases hi : isC H.n a with
  | false =>
    rw [hi] at HA
    clear h k0 hi HB hs hc ok
    go_enter Tryd.func65, Tryd.ntmps65
    go_wp2_with (go_at_call 75; refine HA.mono ?_; rintro e w' ⟨rfl, rfl⟩)
    go_ret
    exact ⟨by simp, 0, rfl⟩
  | true =>
    rw [hi] at HA
    obtain ⟨i, rfl, hin⟩ := isC_yes hi
    cases hj : isC H.n b with
    | false =>
      rw [hj] at HB
      clear h k0 hi hj hs hc ok
      go_enter Tryd.func65, Tryd.ntmps65
      go_wp2_with (first | (go_at_call 75; (with_reducible refine HA.mono ?_); rintro e w' ⟨rfl, rfl⟩) | (go_at_call 75; (with_reducible refine HB.mono ?_); rintro e w' ⟨rfl, rfl⟩))
      go_ret
      exact ⟨by simp, 0, rfl⟩
    | true =>
      rw [hj] at HB
      obtain ⟨j, rfl, hjn⟩ := isC_yes hj
      obtain ⟨-, -, ci, -⟩ := hs i hin
      obtain ⟨-, -, cj, -⟩ := hs j hjn
      rw [ok.dp i hin] at ci
      rw [ok.dp j hjn] at cj
      have HA1 := hid (fun m => above_any (h.drewN m) ok i (min (D i) (D j)) hin)
      have HA2 := hid (fun m => above_any (h.drewN m) ok j (min (D i) (D j)) hjn)
      rw [Bool.true_and, if_pos rfl, Int.toNat_natCast, Int.toNat_natCast]
      unfold Hi.cm
      have e1 : D i - min (D i) (D j) = D i - D j := by omega
      have e2 : D j - min (D i) (D j) = D j - D i := by omega
      rw [e1] at HA1
      rw [e2] at HA2
      obtain ⟨u1, u2⟩ := ok.tr.upn_dep (D i - D j) i hin (by omega)
      obtain ⟨v1, v2⟩ := ok.tr.upn_dep (D j - D i) j hjn (by omega)
      have e3 : min (D i) (D j) = D (Hi.upn P (D i - D j) i) := by omega
      have e4 : D (Hi.upn P (D i - D j) i) = D (Hi.upn P (D j - D i) j) := by omega
      have hmin : (if D j < D i then (D j : Int) else (D i : Int)) = ((min (D i) (D j) : Nat) : Int) := by split <;> omega
      obtain ⟨mn, hmn⟩ : ∃ mn, mn = min (D i) (D j) := ⟨_, rfl⟩
      rw [← hmn] at HA1 HA2 e3 hmin ⊢
      rw [e3]
      obtain ⟨x, hx⟩ : ∃ x, Hi.upn P (D i - D j) i = x := ⟨_, rfl⟩
      obtain ⟨y, hy⟩ : ∃ y, Hi.upn P (D j - D i) j = y := ⟨_, rfl⟩
      rw [hx] at HA1 u1 e4 ⊢
      rw [hy] at HA2 v1 e4 ⊢
      obtain ⟨di, hdi⟩ : ∃ x, D i = x := ⟨_, rfl⟩
      obtain ⟨dj, hdj⟩ : ∃ x, D j = x := ⟨_, rfl⟩
      rw [hdi] at ci hmin
      rw [hdj] at cj hmin
      have HS := hid hs
      have OK := hid ok
      have HX := hid u1
      have HY := hid v1
      have HE := hid e4
      clear h hi hj hs hc ok hx hy e1 e2 e3 e4 u1 u2 v1 v2 hdi hdj hmn
      go_enter Tryd.func65, Tryd.ntmps65
      go_wp2_with (first | (go_at_call 75; (with_reducible refine HA.mono ?_); rintro e w' ⟨rfl, rfl⟩) | (go_at_call 75; (with_reducible refine HB.mono ?_); rintro e w' ⟨rfl, rfl⟩))
      go_quiet (fail)
      go_wp2_with (first | (go_at_call 76; (with_reducible refine (HA1.out _).mono ?_); rintro e w' ⟨rfl, rfl⟩) | (go_at_call 76; (with_reducible refine (HA2.out _).mono ?_); rintro e w' ⟨rfl, rfl⟩))
      clear hmin ci cj HA HB HA1 HA2
      go_loopw [1, 2] (fun p q wr => ∃ i j m : Nat, p = .int .i64 (i : Int) ∧ q = .int .i64 (j : Int) ∧ wr = w.drewN m ∧ Hid (i < H.n) ∧ Hid (j < H.n) ∧ Hid (D i = D j) ∧ Hid (Hi.com P (D i) i j = Hi.com P (D x) x y)) (fun p _ _ => D (intOf p).toNat)
      case atStart => exact ⟨x, y, _, rfl, rfl, rfl, HX, HY, HE, rfl⟩
      case round =>
        obtain ⟨i1, j1, m1, rfl, rfl, rfl, hi1, hj1, hd1, he1⟩ := hrel
        clear hin hjn
        have hin := hi1.out
        have hjn := hj1.out
        by_cases hne : i1 = j1
        · subst hne
          have hres : Hi.com P (D x) x y = i1 := by rw [← he1.out, Hi.com_self]
          have HR := hid hres
          clear hres
          go_wp2
          go_ret
          exact ⟨by rw [HR.out]; rfl, _, rfl⟩
        · obtain ⟨a1, a2, a3, a4, a5⟩ := com_step OK.out.tr hi1.out hd1.out hne hj1.out
          obtain ⟨-, c1, -, -⟩ := HS.out i1 hin
          obtain ⟨-, c2, -, -⟩ := HS.out j1 hjn
          rw [OK.out.su i1 hin, if_neg (by omega)] at c1
          rw [OK.out.su j1 hjn, if_neg (by omega)] at c2
          have q1 := hid (OK.out.tr.up i1 a1 hin)
          have q2 := hid (OK.out.tr.up j1 a2 hjn)
          have q3 := hid a4
          have q4 := hid (a3.symm.trans he1.out)
          have q5 := hid a5
          clear a1 a2 a3 a4 a5
          obtain ⟨pi, hpi⟩ : ∃ x, P i1 = x := ⟨_, rfl⟩
          obtain ⟨pj, hpj⟩ : ∃ x, P j1 = x := ⟨_, rfl⟩
          rw [hpi] at c1 q1 q3 q4 q5
          rw [hpj] at c2 q2 q3 q4
          clear hpi hpj
          go_wp2
          go_quiet (fail)
          go_roundw
          case rel => exact ⟨_, _, _, _, _, _, _, _, _, _, _, _, _, _, _, _, _, _, _, _, _, ⟨pi, pj, _, rfl, rfl, dn2 _ _ _, q1, q2, q3, q4⟩, rfl⟩
          case measure => have := q5.out; simp [intOf]; omega
end
end Go.Proofs.YtlbkhmfgbonelaaDoor
namespace Go.Proofs.YtlbkhmfgbonelaaDoor
open Go Go.RowKit
open Ty (bl mk br T)
/-- A hierarchy that can be asked what two have in common. -/
structure HJ (w : World) (pv : Value) (I : ByteArray → Option Nat) (cm : Nat → Nat → Nat) (nm : Nat → ByteArray) : Prop where
  find : FindH w pv I
  common : ∀ X, Below w.heap.size w X → ∀ (s t : ByteArray) (x y : Nat), I s = some x → I t = some y → Calls Tryd.prog 65 #[pv, .int .i64 (x : Int), .int .i64 (y : Int)] X fun e w' => e = .returned (.int .i64 (cm x y : Int)) ∧ Below X.heap.size X w'
  name : ∀ X, Below w.heap.size w X → ∀ (s t : ByteArray) (x y : Nat), I s = some x → I t = some y → Calls Tryd.prog 64 #[pv, .int .i64 (cm x y : Int)] X fun e w' => e = .returned (.string (nm (cm x y))) ∧ X = w'
theorem HM.hj {w : World} {base : Nat} {H : HV} {P D : Nat → Nat} (h : HM w base H) (ok : HOk H P D) : HJ w (.pointer (some ⟨H.hb, 0, none⟩)) (fun s => Hi.idx s H.names) (Hi.cm P D) H.nm := by
  have hn : H.names.length = H.n := by simp [HV.names]
  refine ⟨h.find, fun X hX s t x y hx hy => ?_, fun X hX s t x y hx hy => ?_⟩
  · have h1 := Hi.idx_lt hx
    have h2 := Hi.idx_lt hy
    have := Common_any (h.below hX) ok (x : Int) (y : Int)
    unfold HV.commonO at this
    rw [isC_nat (by omega), isC_nat (by omega), Bool.true_and, if_pos rfl, Int.toNat_natCast, Int.toNat_natCast] at this
    refine this.mono ?_
    rintro e w' ⟨rfl, m, rfl⟩
    exact ⟨rfl, below_drewN _ _⟩
  · have h1 := Hi.idx_lt hx
    have h2 := Hi.idx_lt hy
    have h3 := (ok.tr.cm_ok (a := x) (b := y) (by omega) (by omega)).2.2.1
    have := Name_any (h.below hX) (Hi.cm P D x y : Int)
    unfold HV.nameO at this
    rw [isC_nat h3, if_pos rfl, Int.toNat_natCast] at this
    refine this.mono ?_
    rintro e w' ⟨rfl, h⟩
    exact ⟨rfl, h⟩
/-- The boxes of two types and of the result. -/
theorem boxes3 (w : World) (a0 a1 b0 b1 : Value) : ∃ W, W = ((w.alloc (.cells #[a0, a1] 23)).alloc (.cells #[b0, b1] 23)).alloc (.cells #[.int .i64 0, .string ⟨#[]⟩] 23) ∧ Below w.heap.size w W ∧ W.heap.size = w.heap.size + 3 ∧ BX W w.heap.size #[a0, a1] 23 ∧ BX W (w.heap.size + 1) #[b0, b1] 23 ∧ BX W (w.heap.size + 1 + 1) #[.int .i64 0, .string ⟨#[]⟩] 23 := by
  refine ⟨_, rfl, (by repeat' first | with_reducible exact Below.refl _ _ | with_reducible assumption | with_reducible refine belows_drewN ?_ _ | with_reducible refine Below.drew ?_ | with_reducible refine Below.setCell ?_ ?_ _ | with_reducible refine Below.alloc ?_ ?_ _ | omega | (simp; done) | (simp; omega)), by simp, ?_, ?_, ?_⟩
  · exact ((BX.new w _ _).below ((Below.refl _ _).alloc (Nat.le_refl _) _)).below ((Below.refl _ _).alloc (Nat.le_refl _) _)
  · have := (BX.new (w.alloc (.cells #[a0, a1] 23)) #[b0, b1] 23).below ((Below.refl _ _).alloc (Nat.le_refl _) (.cells #[.int .i64 0, .string ⟨#[]⟩] 23))
    rw [World.size_alloc] at this
    exact this
  · have := BX.new ((w.alloc (.cells #[a0, a1] 23)).alloc (.cells #[b0, b1] 23)) #[.int .i64 0, .string ⟨#[]⟩] 23
    rw [World.size_alloc, World.size_alloc] at this
    exact this
section
variable {w0 : World} {pv : Value} {I : ByteArray → Option Nat} {cm : Nat → Nat → Nat} {nm : Nat → ByteArray}
set_option maxRecDepth 100000
set_option maxHeartbeats 2000000
/-- Of two classes. -/
theorem joinC_any (h : HJ w0 pv I cm nm) {a b : T} {x y : Nat} (ha : a.n.size ≤ maxLen) (hb : b.n.size ≤ maxLen) (hx : I a.n = some x) (hy : I b.n = some y) (w : World) (hw : Below w0.heap.size w0 w) :
    Calls Tryd.prog 51 #[pv, tyA a, tyA b] w fun e w' => e = .returned (tyA ⟨4, nm (cm x y)⟩) ∧ Below w.heap.size w w' := by
  obtain ⟨w3, hw3, hb3, hs3, x0, x1, x2⟩ := boxes3 w (.int .i64 a.k) (.string a.n) (.int .i64 b.k) (.string b.n)
  have hb03 := belows hw hb3 hw.size
  have F1 := h.find w3 hb03 a.n ha
  have F2 := h.find w3 hb03 b.n hb
  rw [hx] at F1
  rw [hy] at F2
  have F1 := hid F1
  have F2 := hid F2
  have HC := hid (h.common w3 hb03 a.n b.n x y hx hy)
  have HN := hid (fun X hX => h.name X hX a.n b.n x y hx hy)
  have HW3 := hid hw3
  have HB3 := hid hb3
  have HB03 := hid hb03
  have X2 := hid x2
  obtain ⟨z, hz⟩ : ∃ z, nm (cm x y) = z := ⟨_, rfl⟩
  obtain ⟨c, hc⟩ : ∃ c, cm x y = c := ⟨_, rfl⟩
  rw [hz] at HN ⊢
  rw [hc] at HC HN
  obtain ⟨ak, an⟩ := a
  obtain ⟨bk, bn⟩ := b
  unfold tyA
  dsimp only at F1 F2 HW3 ⊢
  rw [HW3.out] at F1 F2
  clear hw3 hb3 hb03 x0 x1 x2 hz hc hx hy h ha hb
  go_enter Tryd.func51, Tryd.ntmps51
  go_wp2_with (first | (go_at_call 49; (with_reducible refine F1.out.mono ?_); rintro e w1 ⟨rfl, rfl⟩) | (go_at_call 49; (with_reducible refine F2.out.mono ?_); rintro e w1 ⟨rfl, rfl⟩) | (go_at_call 65; rw [← HW3.out]; go_loud (refine HC.out.mono ?_; rintro e w4 ⟨rfl, hb4⟩; have HB4 := hid hb4; have X24 := hid (X2.out.below hb4); clear hb4)) | (go_at_call 64; go_loud (refine (HN.out _ (belows HB03.out HB4.out HB03.out.size)).mono ?_; rintro e w1 ⟨rfl, rfl⟩)) | (go_at_call 25; go_loud (refine (reference_any _ _).mono ?_; rintro e w5 ⟨rfl, hb5⟩; have HB5 := hid hb5; have X25 := hid (X24.out.below hb5); have k60 := X25.out.cell 0; have k61 := X25.out.cell 1; have f60 := X25.out.frozen 0; have f61 := X25.out.frozen 1; have hz5 : w.heap.size + 1 + 1 < w5.heap.size := X25.out.sz; clear hb5)))
  have hb5 : Below w.heap.size w w5 := belows (belows HB3.out HB4.out HB3.out.size) HB5.out (belows HB3.out HB4.out HB3.out.size).size
  exact bodyPost_ret (v := .agg #[.int .i64 4, .string z]) (by simp [results, Tryd.results51, go_sem, k60, k61]) rfl ⟨rfl, (by repeat' first | with_reducible exact Below.refl _ _ | with_reducible assumption | with_reducible refine belows_drewN ?_ _ | with_reducible refine Below.drew ?_ | with_reducible refine Below.setCell ?_ ?_ _ | with_reducible refine Below.alloc ?_ ?_ _ | omega | (simp; done) | (simp; omega))⟩
/-- Of two references, whatever joinRefs answers. -/
theorem join4_any {a b t : T} (hab : ¬ a.n = b.n) (ha : a.k = 4) (hb : b.k = 4) (hR : ∀ X, Below w0.heap.size w0 X → Calls Tryd.prog 51 #[pv, tyA a, tyA b] X fun e w' => e = .returned (tyA t) ∧ Below X.heap.size X w') (w : World) (hw : Below w0.heap.size w0 w) :
    Calls Tryd.prog 35 #[pv, tyA a, tyA b] w fun e w' => e = .returned (tyA t) ∧ Below w.heap.size w w' := by
  obtain ⟨w3, hw3, hb3, hs3, x0, x1, x2⟩ := boxes3 w (.int .i64 a.k) (.string a.n) (.int .i64 b.k) (.string b.n)
  have HR := hid (hR w3 (belows hw hb3 hw.size))
  have HW3 := hid hw3
  have HB3 := hid hb3
  have X2 := hid x2
  have hne : (a.n.toList == b.n.toList) = false := by
    rw [beq_eq_false_iff_ne, ne_eq, Ty.str_eq, Ty.str_eq]
    exact fun h => hab (Ty.ba_ext h)
  obtain ⟨ak, an⟩ := a
  obtain ⟨bk, bn⟩ := b
  obtain ⟨tk, tn⟩ := t
  dsimp only at ha hb hne hab
  subst ha hb
  unfold tyA at HR ⊢
  dsimp only at HR HW3 ⊢
  clear hw3 hb3 x0 x1 x2 hR hw
  go_enter Tryd.func35, Tryd.ntmps35
  go_wp2_with (go_at_call 51; rw [← HW3.out]; go_loud (refine HR.out.mono ?_; rintro e w4 ⟨rfl, hb4⟩; have HB4 := hid hb4; have X24 := hid (X2.out.below hb4); have k60 := X24.out.cell 0; have k61 := X24.out.cell 1; have f60 := X24.out.frozen 0; have f61 := X24.out.frozen 1; have hz4 : w.heap.size + 1 + 1 < w4.heap.size := X24.out.sz; clear hb4))
  have hb4 : Below w.heap.size w w4 := belows HB3.out HB4.out HB3.out.size
  exact bodyPost_ret (v := .agg #[.int .i64 tk, .string tn]) (by simp [results, Tryd.results35, go_sem, k60, k61]) rfl ⟨rfl, (by repeat' first | with_reducible exact Below.refl _ _ | with_reducible assumption | with_reducible refine belows_drewN ?_ _ | with_reducible refine Below.drew ?_ | with_reducible refine Below.setCell ?_ ?_ _ | with_reducible refine Below.alloc ?_ ?_ _ | omega | (simp; done) | (simp; omega))⟩
/-- Of two arrays of references. -/
theorem joinA_any (h : FindH w0 pv I) {a b j : T} (ha : a.n.size ≤ maxLen) (hb : b.n.size ≤ maxLen) (hx : I a.n = none) (hy : I b.n = none) (h1 : (Ty.elP a).k = 4) (h2 : (Ty.elP b).k = 4) (hjn : j.n.size ≤ 140737488351232)
    (hJ : ∀ X, Below w0.heap.size w0 X → Calls Tryd.prog 35 #[pv, tyA (Ty.elP a), tyA (Ty.elP b)] X fun e w' => e = .returned (tyA j) ∧ Below X.heap.size X w') (w : World) (hw : Below w0.heap.size w0 w) :
    Calls Tryd.prog 51 #[pv, tyA a, tyA b] w fun e w' => e = .returned (tyA (Ty.arP j)) ∧ Below w.heap.size w w' := by
  obtain ⟨w3, hw3, hb3, hs3, x0, x1, x2⟩ := boxes3 w (.int .i64 a.k) (.string a.n) (.int .i64 b.k) (.string b.n)
  have hb03 := belows hw hb3 hw.size
  have F1 := h w3 hb03 a.n ha
  have F2 := h w3 hb03 b.n hb
  rw [hx] at F1
  rw [hy] at F2
  have F1 := hid F1
  have F2 := hid F2
  have HE := hid (elements_any a b ha hb w3)
  rw [decide_eq_true h1, decide_eq_true h2, Bool.true_and] at HE
  have HA := hid (fun W => array_any j hjn W)
  unfold tyO at HA
  rw [show (Ty.ar j).getD Ty.top = Ty.arP j from rfl] at HA
  have HJ := hid hJ
  have HW3 := hid hw3
  have HB3 := hid hb3
  have HB03 := hid hb03
  have X2 := hid x2
  obtain ⟨⟨uk, un⟩, hu⟩ : ∃ u, Ty.elP a = u := ⟨_, rfl⟩
  obtain ⟨⟨vk, vn⟩, hv⟩ : ∃ u, Ty.elP b = u := ⟨_, rfl⟩
  obtain ⟨⟨qk, qn⟩, hq⟩ : ∃ u, Ty.arP j = u := ⟨_, rfl⟩
  obtain ⟨g, hg⟩ : ∃ g, (Ty.ar j).isSome = g := ⟨_, rfl⟩
  rw [hu, hv] at HE HJ
  rw [hq, hg] at HA
  rw [hq]
  obtain ⟨ak, an⟩ := a
  obtain ⟨bk, bn⟩ := b
  obtain ⟨jk, jn⟩ := j
  unfold tyA at HE HJ HA ⊢
  dsimp only at F1 F2 HW3 HE HJ HA ⊢
  rw [HW3.out] at F1 F2
  clear hw3 hb3 hb03 x0 x1 x2 hx hy h ha hb h1 h2 hJ hu hv hq hg hjn
  go_enter Tryd.func51, Tryd.ntmps51
  go_upto_region 8 with (first | (go_at_call 49; (with_reducible refine F1.out.mono ?_); rintro e w1 ⟨rfl, rfl⟩) | (go_at_call 49; (with_reducible refine F2.out.mono ?_); rintro e w1 ⟨rfl, rfl⟩) | (go_at_call 63; rw [← HW3.out]; go_loud (refine HE.out.mono ?_; rintro e w4 ⟨rfl, hb4⟩; have HB4 := hid hb4; clear hb4)))
  refine region_named fun W hW => ?_
  have hWb : Below w4.heap.size w4 W := by rw [hW]; exact (by repeat' first | with_reducible exact Below.refl _ _ | with_reducible assumption | with_reducible refine belows_drewN ?_ _ | with_reducible refine Below.drew ?_ | with_reducible refine Below.setCell ?_ ?_ _ | with_reducible refine Below.alloc ?_ ?_ _ | omega | (simp; done) | (simp; omega))
  have hWs : W.heap.size = w4.heap.size + 2 := by rw [hW]; simp
  have y0 : BX W w4.heap.size #[.int .i64 uk, .string un] 23 := by
    rw [hW]
    exact (BX.new w4 _ _).below ((Below.refl _ _).alloc (Nat.le_refl _) _)
  have y1 : BX W (w4.heap.size + 1) #[.int .i64 vk, .string vn] 23 := by
    have := BX.new (w4.alloc (.cells #[.int .i64 uk, .string un] 23)) #[.int .i64 vk, .string vn] 23
    rw [← hW, World.size_alloc] at this
    exact this
  have c0 := y0.cell 0
  have c1 := y0.cell 1
  have c2 := y1.cell 0
  have c3 := y1.cell 1
  have hb04W : Below w0.heap.size w0 W := belows (belows HB03.out HB4.out HB03.out.size) hWb (belows HB03.out HB4.out HB03.out.size).size
  have hbwW : Below w.heap.size w W := belows (belows HB3.out HB4.out HB3.out.size) hWb (belows HB3.out HB4.out HB3.out.size).size
  have X2W := hid ((X2.out.below HB4.out).below hWb)
  have HW0 := hid hb04W
  have HWw := hid hbwW
  clear hW hWb hWs y0 y1 hb04W hbwW
  go_upto_region 9 with (first | (go_at_call 35; go_loud (refine (HJ.out _ HW0.out).mono ?_; rintro e w5 ⟨rfl, hb5⟩; have HB5 := hid hb5; clear hb5)) | (go_at_call 9; go_loud (refine (HA.out _).mono ?_; rintro e w6 ⟨rfl, hb6⟩; have HB6 := hid hb6; clear hb6)))
  refine region_named fun V hV => ?_
  have hVb : Below w6.heap.size w6 V := by rw [hV]; exact (by repeat' first | with_reducible exact Below.refl _ _ | with_reducible assumption | with_reducible refine belows_drewN ?_ _ | with_reducible refine Below.drew ?_ | with_reducible refine Below.setCell ?_ ?_ _ | with_reducible refine Below.alloc ?_ ?_ _ | omega | (simp; done) | (simp; omega))
  have y0 : BX V w6.heap.size #[.int .i64 qk, .string qn] 23 := by rw [hV]; exact BX.new w6 _ _
  have hwV : Below W.heap.size W V := belows (belows HB5.out HB6.out HB5.out.size) hVb (belows HB5.out HB6.out HB5.out.size).size
  have X2V := X2W.out.below hwV
  have c4 := y0.cell 0
  have c5 := y0.cell 1
  have k60 := X2V.cell 0
  have k61 := X2V.cell 1
  have f60 := X2V.frozen 0
  have f61 := X2V.frozen 1
  have hzV : w.heap.size + 1 + 1 < V.heap.size := X2V.sz
  have hbwV : Below w.heap.size w V := belows HWw.out hwV HWw.out.size
  clear hV hVb y0 hwV X2V c0 c1 c2 c3
  go_wp2
  exact bodyPost_ret (v := .agg #[.int .i64 qk, .string qn]) (by simp [results, Tryd.results51, go_sem, k60, k61]) rfl ⟨rfl, (by repeat' first | with_reducible exact Below.refl _ _ | with_reducible assumption | with_reducible refine belows_drewN ?_ _ | with_reducible refine Below.drew ?_ | with_reducible refine Below.setCell ?_ ?_ _ | with_reducible refine Below.alloc ?_ ?_ _ | omega | (simp; done) | (simp; omega))⟩
/-- Join, of two that may be, whatever join answers. -/
theorem Join_any (h : FindH w0 pv I) {a b t : T} (ha : a.n.size ≤ maxLen) (hb : b.n.size ≤ maxLen) (h1 : Ty.val I a = true) (h2 : Ty.val I b = true) (hJ : ∀ X, Below w0.heap.size w0 X → Calls Tryd.prog 35 #[pv, tyA a, tyA b] X fun e w' => e = .returned (tyA t) ∧ Below X.heap.size X w') (w : World) (hw : Below w0.heap.size w0 w) :
    Calls Tryd.prog 19 #[pv, tyA a, tyA b] w fun e w' => e = .returned (tyA t) ∧ Below w.heap.size w w' := by
  obtain ⟨w3, hw3, hb3, hs3, x0, x1, x2⟩ := boxes3 w (.int .i64 a.k) (.string a.n) (.int .i64 b.k) (.string b.n)
  have hb03 := belows hw hb3 hw.size
  have V1 := valid_any h ha hb03
  rw [h1] at V1
  have V1 := hid V1
  have V2 := hid (fun X (hX : Below w3.heap.size w3 X) => valid_any h hb (belows hb03 hX hb03.size))
  rw [h2] at V2
  have HR := hid (fun X (hX : Below w3.heap.size w3 X) => hJ X (belows hb03 hX hb03.size))
  have HW3 := hid hw3
  have HB3 := hid hb3
  have X0 := hid x0
  have X1 := hid x1
  have X2 := hid x2
  obtain ⟨ak, an⟩ := a
  obtain ⟨bk, bn⟩ := b
  obtain ⟨tk, tn⟩ := t
  unfold tyA at HR V1 V2 ⊢
  dsimp only at HR HW3 V1 V2 X0 X1 ⊢
  clear hw3 hb3 hb03 x0 x1 x2 hJ hw h ha hb h1 h2
  go_enter Tryd.func19, Tryd.ntmps19
  go_wp2_with (first | (go_at_call 17; (fail_if_success (have _g := HV1)); rw [← HW3.out]; go_loud (refine V1.out.mono ?_; rintro e w4 ⟨rfl, hb4⟩; have HV1 := hid hb4; have d0 := (X1.out.below hb4).cell 0; have d1 := (X1.out.below hb4).cell 1; clear hb4)) | (go_at_call 17; have _g := HV1; go_loud (refine (V2.out _ HV1.out).mono ?_; rintro e w5 ⟨rfl, hb5⟩; have HV2 := hid (belows HV1.out hb5 HV1.out.size); have e0 := (X0.out.below HV2.out).cell 0; have e1 := (X0.out.below HV2.out).cell 1; have e2 := (X1.out.below HV2.out).cell 0; have e3 := (X1.out.below HV2.out).cell 1; clear hb5)) | (go_at_call 35; go_loud (refine (HR.out _ HV2.out).mono ?_; rintro e w6 ⟨rfl, hb6⟩; have HV3 := hid (belows HV2.out hb6 HV2.out.size); have k60 := (X2.out.below HV3.out).cell 0; have k61 := (X2.out.below HV3.out).cell 1; have f60 := (X2.out.below HV3.out).frozen 0; have f61 := (X2.out.below HV3.out).frozen 1; have hz6 : w.heap.size + 1 + 1 < w6.heap.size := (X2.out.below HV3.out).sz; clear hb6)))
  have hb6 : Below w.heap.size w w6 := belows HB3.out HV3.out HB3.out.size
  exact bodyPost_ret (v := .agg #[.int .i64 tk, .string tn]) (by simp [results, Tryd.results19, go_sem, k60, k61]) rfl ⟨rfl, (by repeat' first | with_reducible exact Below.refl _ _ | with_reducible assumption | with_reducible refine belows_drewN ?_ _ | with_reducible refine Below.drew ?_ | with_reducible refine Below.setCell ?_ ?_ _ | with_reducible refine Below.alloc ?_ ?_ _ | omega | (simp; done) | (simp; omega))⟩
end
end Go.Proofs.YtlbkhmfgbonelaaDoor
namespace Go.Proofs.YtlbkhmfgbonelaaDoor
open Go Go.RowKit
open Ty (bl mk br T)
set_option maxRecDepth 100000
set_option maxHeartbeats 2000000
theorem u8_int {c : UInt8} {x : UInt8} : (((c.toNat : Int)) == (x.toNat : Int)) = decide (c = x) := by
  by_cases h : c = x
  · simp [h]
  · simp only [h, decide_false, beq_eq_false_iff_ne, ne_eq]
    intro e
    exact h (UInt8.toNat_inj.1 (by exact_mod_cast e))
theorem rclass_any (s : ByteArray) (w : World) : Calls Tryd.prog 27 #[.string s] w fun e w' => e = .returned (.bool (Ty.clsB (bl s))) ∧ w = w' := by
  unfold Ty.clsB
  cases hb : bl s with
  | nil =>
    have h0 : s = ⟨#[]⟩ := Ty.ba_ext hb
    subst h0
    clear hb
    go_enter Tryd.func27, Tryd.ntmps27
    go_wp2
    go_ret
    exact ⟨rfl, rfl⟩
  | cons c l =>
    have he : s.toList.isEmpty = false := by rw [Ty.str_eq, hb]; rfl
    have hne : ¬ s = ⟨#[]⟩ := fun e => by rw [e] at hb; cases hb
    have h0 := size_pos hb
    have hc0 : ((s[0]'h0).toNat : Int) = (c.toNat : Int) := by rw [byte_at hb h0]
    have h1 : decide (c :: l ≠ []) = true := by simp
    have h2 : decide (br (c :: l) = 0) = !decide (c = 91) := by
      by_cases e : c = 91
      · subst e; rw [Ty.br_yes]; simp
      · rw [Ty.br_no _ e]; simp [e]
    rw [h1, h2, Bool.true_and]
    have hq := u8_int (c := c) (x := 91)
    have hq2 : ((c.toNat : Int) == 91) = decide (c = 91) := hq
    have hq3 : ((c.toNat : Int) != 91) = !decide (c = 91) := by unfold bne; rw [hq2]
    obtain ⟨b, hb91⟩ : ∃ b, decide (c = 91) = b := ⟨_, rfl⟩
    rw [hb91] at hq2 hq3 ⊢
    clear hb h1 h2 hq hb91
    go_enter Tryd.func27, Tryd.ntmps27
    go_wp2
    go_ret
    exact ⟨by simp, rfl⟩
/-- The byte at the end. -/
theorem last_at {d : ByteArray} {l : List UInt8} {z : UInt8} (h : bl d = l ++ [z]) (h0 : d.size - 1 < d.size) : d[d.size - 1]'h0 = z := by
  have hs : d.size = l.length + 1 := by rw [← Ty.bl_len, h]; simp
  have h1 : d.data.toList[d.size - 1]? = some z := by rw [show d.data.toList = _ from h, hs]; simp
  have h2 : d.data.toList[d.size - 1]? = some (d[d.size - 1]'h0) := by
    rw [Array.getElem?_toList, Array.getElem?_eq_getElem (by simpa using h0)]
    rfl
  exact Option.some.inj (h2.symm.trans h1)
/-- What the document asks of a text that may stand for a class. -/
theorem wn_ref {d : ByteArray} {c : UInt8} {l : List UInt8} {z : UInt8} (h : bl d = c :: (l ++ [z])) (hl : l ≠ []) : Ty.wn (bl d) = if (decide (c = 76) && decide (z = 59) && Ty.clsB l) = true then some l else none := by
  rw [h]
  by_cases hc : c = 76
  · subst hc
    unfold Ty.wn Ty.clsB
    by_cases hz : z = 59
    · subst hz; simp [hl]
    · simp [hz]
  · cases hw : Ty.wn (c :: (l ++ [z])) with
    | none => simp [hc]
    | some q =>
      obtain ⟨e, -, -⟩ := Ty.wn_some.1 hw
      injection e with e
      exact absurd e hc
theorem wn_short {r : List UInt8} (h : r.length ≤ 2) : Ty.wn r = none := by
  cases hw : Ty.wn r with
  | none => rfl
  | some q =>
    obtain ⟨rfl, h2, -⟩ := Ty.wn_some.1 hw
    cases q with
    | nil => exact absurd rfl h2
    | cons => simp at h
theorem relement_any (t : T) (hs : t.n.size ≤ maxLen) (w : World) : Calls Tryd.prog 8 #[tyA t] w fun e w' => e = .returned (tyO (Ty.el t)) ∧ Below w.heap.size w w' := by
  obtain ⟨k, n⟩ := t
  dsimp only at hs
  unfold Ty.el
  dsimp only
  by_cases hk : k = 4
  · subst hk
    rw [if_pos rfl]
    cases hb : bl n with
    | nil =>
      have h0 : n = ⟨#[]⟩ := Ty.ba_ext hb
      subst h0
      rw [show Ty.elL [] = none from rfl]
      unfold tyO tyA
      clear hb
      go_enter Tryd.func8, Tryd.ntmps8
      go_wp2
      exact bodyPost_ret (v := .tuple #[.agg #[.int .i64 0, .string ⟨#[]⟩], .bool false]) (by simp [results, Tryd.results8, go_sem]) rfl ⟨rfl, (by repeat' first | with_reducible exact Below.refl _ _ | with_reducible assumption | with_reducible refine belows_drewN ?_ _ | with_reducible refine Below.drew ?_ | with_reducible refine Below.setCell ?_ ?_ _ | with_reducible refine Below.alloc ?_ ?_ _ | omega | (simp; done) | (simp; omega))⟩
    | cons c r =>
      have hnz : n.size = r.length + 1 := by rw [← Ty.bl_len, hb]; rfl
      by_cases hr0 : r = []
      · subst hr0
        have hel : Ty.elL [c] = none := by
          unfold Ty.elL
          split
          · rename_i x hx
            injection hx with hx1 hx2
            subst hx2
            simp [br, Ty.wn]
          · rfl
        rw [hel]
        have hlt : (n.size : Int) < 2 := by rw [hnz]; decide
        have hlt2 : decide ((n.size : Int) < 2) = true := decide_eq_true hlt
        unfold tyO tyA
        clear hb hel hnz
        go_enter Tryd.func8, Tryd.ntmps8
        go_wp2
        exact bodyPost_ret (v := .tuple #[.agg #[.int .i64 0, .string ⟨#[]⟩], .bool false]) (by simp [results, Tryd.results8, go_sem]) rfl ⟨rfl, (by repeat' first | with_reducible exact Below.refl _ _ | with_reducible assumption | with_reducible refine belows_drewN ?_ _ | with_reducible refine Below.drew ?_ | with_reducible refine Below.setCell ?_ ?_ _ | with_reducible refine Below.alloc ?_ ?_ _ | omega | (simp; done) | (simp; omega))⟩
      · have hrl : 0 < r.length := List.length_pos_iff.2 hr0
        have hlt : ¬ (n.size : Int) < 2 := by omega
        have hlt2 : decide ((n.size : Int) < 2) = false := decide_eq_false hlt
        have h0 := size_pos hb
        have hc0 : ((n[0]'h0).toNat : Int) = (c.toNat : Int) := by rw [byte_at hb h0]
        have hq2 : ((c.toNat : Int) == 91) = decide (c = 91) := u8_int (c := c) (x := 91)
        by_cases hc : c = 91
        · subst hc
          have hc1 : ((n[0]'h0).toNat : Int) = 91 := hc0
          obtain ⟨d, hd⟩ : ∃ d, n.extract 1 n.size = d := ⟨_, rfl⟩
          have hdr : bl d = r := by rw [← hd, Ty.bl_from, hb]; rfl
          have hq73 := str_dec d [73]
          have hq74 := str_dec d [74]
          rw [hdr] at hq73 hq74
          have hmd : mk r = d := (Ty.mk_of hdr).symm
          have hel : Ty.elL (91 :: r) = if r = [73] then some ⟨1, mk []⟩ else if r = [74] then some ⟨2, mk []⟩ else if 0 < br r then some ⟨4, d⟩ else (Ty.wn r).map (fun q => ⟨4, mk q⟩) := by rw [← hmd]; rfl
          rw [hel]
          have hn1 : 1 ≤ n.size := by omega
          have hle : (1 : Int) ≤ (n.size : Int) := by omega
          have HD : Hid (n.extract 1 n.size = d) := hd
          have hds : d.size = r.length := by rw [← Ty.bl_len, hdr]
          clear hel hmd hc0 hq2
          by_cases e1 : r = [73]
          · rw [if_pos e1]
            rw [decide_eq_true e1, ← hd] at hq73
            unfold tyO tyA
            clear e1 hd hb hdr hds hnz hr0 hrl hq74
            go_enter Tryd.func8, Tryd.ntmps8
            go_wp2
            exact bodyPost_ret (v := .tuple #[.agg #[.int .i64 1, .string ⟨#[]⟩], .bool true]) (by simp [results, Tryd.results8, go_sem]) rfl ⟨rfl, (by repeat' first | with_reducible exact Below.refl _ _ | with_reducible assumption | with_reducible refine belows_drewN ?_ _ | with_reducible refine Below.drew ?_ | with_reducible refine Below.setCell ?_ ?_ _ | with_reducible refine Below.alloc ?_ ?_ _ | omega | (simp; done) | (simp; omega))⟩
          · rw [if_neg e1]
            rw [decide_eq_false e1] at hq73
            by_cases e2 : r = [74]
            · rw [if_pos e2]
              rw [decide_eq_true e2, ← hd] at hq74
              rw [← hd] at hq73
              unfold tyO tyA
              clear e1 e2 hd hb hdr hds hnz hr0 hrl
              go_enter Tryd.func8, Tryd.ntmps8
              go_wp2
              exact bodyPost_ret (v := .tuple #[.agg #[.int .i64 2, .string ⟨#[]⟩], .bool true]) (by simp [results, Tryd.results8, go_sem]) rfl ⟨rfl, (by repeat' first | with_reducible exact Below.refl _ _ | with_reducible assumption | with_reducible refine belows_drewN ?_ _ | with_reducible refine Below.drew ?_ | with_reducible refine Below.setCell ?_ ?_ _ | with_reducible refine Below.alloc ?_ ?_ _ | omega | (simp; done) | (simp; omega))⟩
            · rw [if_neg e2]
              rw [decide_eq_false e2] at hq74
              cases r with
              | nil => exact absurd rfl hr0
              | cons x r =>
                have hd0 := size_pos hdr
                have hx0 : ((d[0]'hd0).toNat : Int) = (x.toNat : Int) := by rw [byte_at hdr hd0]
                have hx91 : ((x.toNat : Int) == 91) = decide (x = 91) := u8_int (c := x) (x := 91)
                by_cases e3 : x = 91
                · subst e3
                  rw [if_pos (by rw [Ty.br_yes]; omega)]
                  have hx1 : ((d[0]'hd0).toNat : Int) = 91 := hx0
                  unfold tyO tyA
                  clear e1 e2 hb hdr hds hnz hr0 hrl hx0 hx91
                  go_enter Tryd.func8, Tryd.ntmps8
                  go_wp2
                  exact bodyPost_ret (v := .tuple #[.agg #[.int .i64 4, .string d], .bool true]) (by simp [results, Tryd.results8, go_sem]) rfl ⟨rfl, (by repeat' first | with_reducible exact Below.refl _ _ | with_reducible assumption | with_reducible refine belows_drewN ?_ _ | with_reducible refine Below.drew ?_ | with_reducible refine Below.setCell ?_ ?_ _ | with_reducible refine Below.alloc ?_ ?_ _ | omega | (simp; done) | (simp; omega))⟩
                · rw [if_neg (by rw [Ty.br_no _ e3]; omega)]
                  rw [decide_eq_false e3] at hx91
                  have hx76 : ((x.toNat : Int) == 76) = decide (x = 76) := u8_int (c := x) (x := 76)
                  by_cases hL : 2 < d.size
                  · have hL1 : (2 : Int) < (d.size : Int) := by omega
                    obtain ⟨l, z, hlz⟩ : ∃ l z, r = l ++ [z] := by
                      rcases List.eq_nil_or_concat r with h | ⟨l, z, h⟩
                      · subst h; simp at hds; omega
                      · exact ⟨l, z, by rw [h, List.concat_eq_append]⟩
                    subst hlz
                    have hln : l ≠ [] := by rintro rfl; simp at hds; omega
                    have hll : d.size - 1 < d.size := by omega
                    have hz : ((d[d.size - 1]'hll).toNat : Int) = (z.toNat : Int) := by rw [last_at (l := x :: l) (by rw [hdr]; rfl) hll]
                    have hz59 : ((z.toNat : Int) == 59) = decide (z = 59) := u8_int (c := z) (x := 59)
                    obtain ⟨m, hm⟩ : ∃ m, d.extract 1 (d.size - 1) = m := ⟨_, rfl⟩
                    have hml : bl m = l := by
                      rw [← hm, Ty.bl_ext, hdr, hds]
                      simp
                    have hwn := wn_ref hdr hln
                    rw [hdr] at hwn
                    rw [hwn]
                    have HC := hid (fun W => rclass_any m W)
                    rw [hml] at HC
                    obtain ⟨b1, hb1⟩ : ∃ b, decide (x = 76) = b := ⟨_, rfl⟩
                    obtain ⟨b2, hb2⟩ : ∃ b, decide (z = 59) = b := ⟨_, rfl⟩
                    obtain ⟨b3, hb3⟩ : ∃ b, Ty.clsB l = b := ⟨_, rfl⟩
                    rw [hb1] at hx76
                    rw [hb2] at hz59
                    rw [hb3] at HC
                    rw [hb1, hb2, hb3]
                    have hmk : mk l = m := (Ty.mk_of hml).symm
                    have hr : tyO ((if (b1 && b2 && b3) = true then some l else none).map (fun q => (⟨4, mk q⟩ : T))) = if (b1 && b2 && b3) = true then .tuple #[.agg #[.int .i64 4, .string m], .bool true] else .tuple #[.agg #[.int .i64 0, .string ⟨#[]⟩], .bool false] := by
                      rw [← hmk]
                      by_cases h : (b1 && b2 && b3) = true
                      · rw [if_pos h, if_pos h]; rfl
                      · rw [if_neg h, if_neg h]; rfl
                    rw [hr]
                    unfold tyA
                    unfold maxLen at hs
                    have hdn : d.size ≤ n.size := by rw [hds, hnz]; omega
                    have hw1 : IntKind.i64.wrap ((d.size : Int) - 1) = ((d.size - 1 : Nat) : Int) := by rw [IntWalk.i64_in _ (by omega)]; omega
                    have hw2 : ((d.size : Int) - 1).toNat = d.size - 1 := by omega
                    have hw3 : (0 : Int) ≤ (d.size : Int) - 1 := by omega
                    have hw4 : (1 : Int) ≤ (d.size : Int) - 1 := by omega
                    have hw5 : (1 : Int) ≤ ((d.size - 1 : Nat) : Int) := by omega
                    have hw6 : ((d.size - 1 : Nat) : Int) ≤ (d.size : Int) := by omega
                    have hw7 : 1 ≤ d.size - 1 := by omega
                    have hw8 : d.size - 1 ≤ d.size := by omega
                    clear e1 e2 hb hdr hnz hr0 hrl hwn hml hmk hr hb1 hb2 hb3 hds hdn
                    have hq1' : (d.toList == [73]) = false := hq73
                    go_enter Tryd.func8, Tryd.ntmps8
                    go_upto_region 4 with fail
                    clear hd HD
                    subst hm
                    cases b1 <;> cases b2 <;> cases b3 <;>
                    · go_wp2_with (go_at_call 27; refine (HC.out _).mono ?_; rintro e w1 ⟨rfl, rfl⟩)
                      first
                        | exact bodyPost_ret (v := .tuple #[.agg #[.int .i64 0, .string ⟨#[]⟩], .bool false]) (by simp [results, Tryd.results8, go_sem]) rfl ⟨rfl, (by repeat' first | with_reducible exact Below.refl _ _ | with_reducible assumption | with_reducible refine belows_drewN ?_ _ | with_reducible refine Below.drew ?_ | with_reducible refine Below.setCell ?_ ?_ _ | with_reducible refine Below.alloc ?_ ?_ _ | omega | (simp; done) | (simp; omega))⟩
                        | exact bodyPost_ret (v := .tuple #[.agg #[.int .i64 4, .string (d.extract 1 (d.size - 1))], .bool true]) (by simp [results, Tryd.results8, go_sem]) rfl ⟨rfl, (by repeat' first | with_reducible exact Below.refl _ _ | with_reducible assumption | with_reducible refine belows_drewN ?_ _ | with_reducible refine Below.drew ?_ | with_reducible refine Below.setCell ?_ ?_ _ | with_reducible refine Below.alloc ?_ ?_ _ | omega | (simp; done) | (simp; omega))⟩
                  · have hL1 : ¬ (2 : Int) < (d.size : Int) := by omega
                    have hL2 : decide ((2 : Int) < (d.size : Int)) = false := decide_eq_false hL1
                    rw [wn_short (by rw [← hds]; omega)]
                    unfold tyO tyA
                    clear e1 e2 hb hdr hds hnz hr0 hrl
                    go_enter Tryd.func8, Tryd.ntmps8
                    go_wp2
                    exact bodyPost_ret (v := .tuple #[.agg #[.int .i64 0, .string ⟨#[]⟩], .bool false]) (by simp [results, Tryd.results8, go_sem]) rfl ⟨rfl, (by repeat' first | with_reducible exact Below.refl _ _ | with_reducible assumption | with_reducible refine belows_drewN ?_ _ | with_reducible refine Below.drew ?_ | with_reducible refine Below.setCell ?_ ?_ _ | with_reducible refine Below.alloc ?_ ?_ _ | omega | (simp; done) | (simp; omega))⟩
        · have hel : Ty.elL (c :: r) = none := by
            unfold Ty.elL
            split
            · rename_i x hx
              injection hx with hx1 hx2
              exact absurd hx1 hc
            · rfl
          rw [hel]
          rw [decide_eq_false hc] at hq2
          have hq3 : ((c.toNat : Int) != 91) = true := by unfold bne; rw [hq2]; rfl
          unfold tyO tyA
          clear hb hel hnz
          go_enter Tryd.func8, Tryd.ntmps8
          go_wp2
          exact bodyPost_ret (v := .tuple #[.agg #[.int .i64 0, .string ⟨#[]⟩], .bool false]) (by simp [results, Tryd.results8, go_sem]) rfl ⟨rfl, (by repeat' first | with_reducible exact Below.refl _ _ | with_reducible assumption | with_reducible refine belows_drewN ?_ _ | with_reducible refine Below.drew ?_ | with_reducible refine Below.setCell ?_ ?_ _ | with_reducible refine Below.alloc ?_ ?_ _ | omega | (simp; done) | (simp; omega))⟩
  · rw [if_neg hk]
    have hk2 : (k != 4) = true := by simpa using hk
    unfold tyO tyA
    go_enter Tryd.func8, Tryd.ntmps8
    go_wp2
    exact bodyPost_ret (v := .tuple #[.agg #[.int .i64 0, .string ⟨#[]⟩], .bool false]) (by simp [results, Tryd.results8, go_sem]) rfl ⟨rfl, (by repeat' first | with_reducible exact Below.refl _ _ | with_reducible assumption | with_reducible refine belows_drewN ?_ _ | with_reducible refine Below.drew ?_ | with_reducible refine Below.setCell ?_ ?_ _ | with_reducible refine Below.alloc ?_ ?_ _ | omega | (simp; done) | (simp; omega))⟩
end Go.Proofs.YtlbkhmfgbonelaaDoor
namespace Go.Proofs.YtlbkhmfgbonelaaDoor
open Go Go.RowKit
open Ty (bl mk br T)
set_option maxRecDepth 100000
set_option maxHeartbeats 2000000
theorem byte_get {t : ByteArray} {k : Nat} {c : UInt8} (h : (bl t)[k]? = some c) (hk : k < t.size) : t[k]'hk = c := by
  have h2 : t.data.toList[k]? = some (t[k]'hk) := by
    rw [Array.getElem?_toList, Array.getElem?_eq_getElem (by simpa using hk)]
    rfl
  exact Option.some.inj (h2.symm.trans h)
theorem rarray_any (t : T) (hs : t.n.size ≤ 140737488351232) (w : World) : Calls Tryd.prog 10 #[tyA t] w fun e w' => e = .returned (tyO (Ty.ar t)) ∧ Below w.heap.size w w' := by
  obtain ⟨k, n⟩ := t
  dsimp only at hs
  unfold Ty.ar
  dsimp only
  by_cases h1 : k = 1
  · subst h1
    rw [if_pos rfl]
    unfold tyO tyA
    go_enter Tryd.func10, Tryd.ntmps10
    go_wp2
    exact bodyPost_ret (v := .tuple #[.agg #[.int .i64 4, .string ⟨#[91, 73]⟩], .bool true]) (by simp [results, Tryd.results10, go_sem]) rfl ⟨rfl, (by repeat' first | with_reducible exact Below.refl _ _ | with_reducible assumption | with_reducible refine belows_drewN ?_ _ | with_reducible refine Below.drew ?_ | with_reducible refine Below.setCell ?_ ?_ _ | with_reducible refine Below.alloc ?_ ?_ _ | omega | (simp; done) | (simp; omega))⟩
  · rw [if_neg h1]
    by_cases h2 : k = 2
    · subst h2
      rw [if_pos rfl]
      unfold tyO tyA
      go_enter Tryd.func10, Tryd.ntmps10
      go_wp2
      exact bodyPost_ret (v := .tuple #[.agg #[.int .i64 4, .string ⟨#[91, 74]⟩], .bool true]) (by simp [results, Tryd.results10, go_sem]) rfl ⟨rfl, (by repeat' first | with_reducible exact Below.refl _ _ | with_reducible assumption | with_reducible refine belows_drewN ?_ _ | with_reducible refine Below.drew ?_ | with_reducible refine Below.setCell ?_ ?_ _ | with_reducible refine Below.alloc ?_ ?_ _ | omega | (simp; done) | (simp; omega))⟩
    · rw [if_neg h2]
      by_cases h4 : k = 4
      · subst h4
        rw [if_neg (fun h => h rfl)]
        cases hb : bl n with
        | nil =>
          have h0 : n = ⟨#[]⟩ := Ty.ba_ext hb
          subst h0
          rw [if_pos rfl]
          unfold tyO tyA
          clear hb
          go_enter Tryd.func10, Tryd.ntmps10
          go_wp2
          exact bodyPost_ret (v := .tuple #[.agg #[.int .i64 0, .string ⟨#[]⟩], .bool false]) (by simp [results, Tryd.results10, go_sem]) rfl ⟨rfl, (by repeat' first | with_reducible exact Below.refl _ _ | with_reducible assumption | with_reducible refine belows_drewN ?_ _ | with_reducible refine Below.drew ?_ | with_reducible refine Below.setCell ?_ ?_ _ | with_reducible refine Below.alloc ?_ ?_ _ | omega | (simp; done) | (simp; omega))⟩
        | cons c r =>
          have h0 := size_pos hb
          have hc0 : ((n[0]'h0).toNat : Int) = (c.toNat : Int) := by rw [byte_at hb h0]
          have hq2 : ((c.toNat : Int) == 91) = decide (c = 91) := u8_int (c := c) (x := 91)
          have hq3 : ((c.toNat : Int) != 91) = !decide (c = 91) := by unfold bne; rw [hq2]
          rw [← hb]
          have hne : bl n ≠ [] := by rw [hb]; simp
          rw [if_neg hne]
          have he : n.toList.isEmpty = false := by rw [Ty.str_eq, hb]; rfl
          have hn0 : ¬ n = ⟨#[]⟩ := fun e => hne (by rw [e])
          have ha1 := arr_text n
          have ha2 := arr_text1 n
          by_cases hc : c = 91
          · subst hc
            have hbr : br (bl n) ≠ 0 := by rw [hb, Ty.br_yes]; omega
            have hq4 : ((n[0]'h0).toNat : Int) = 91 := hc0
            rw [if_neg hbr, ← ha2]
            have hle := Ty.br_le (bl n)
            rw [Ty.bl_len] at hle
            have HI := hid (fun k (h : k < br (bl n)) => Ty.br_in h)
            have HE := hid (Ty.br_end (l := bl n))
            obtain ⟨b, hbk⟩ : ∃ b, br (bl n) = b := ⟨_, rfl⟩
            rw [hbk] at HI HE hle ⊢
            clear hb hne hbr ha1 ha2 hbk hc0 hq2 hq3
            obtain ⟨R, hR⟩ : ∃ R, (if b < 16 then some (⟨4, ⟨#[91]⟩ ++ n⟩ : T) else none) = R := ⟨_, rfl⟩
            rw [hR]
            have HR := hid hR
            clear hR
            unfold tyA
            go_enter Tryd.func10, Tryd.ntmps10
            go_wp2
            go_loop [4] (fun v => ∃ i : Nat, v = .int .i64 (i : Int) ∧ i ≤ b) (fun v => b - (intOf v).toNat)
            case atStart => exact ⟨0, rfl, by omega⟩
            case round =>
              obtain ⟨i, rfl, hib⟩ := hrel
              by_cases hlt : i < b
              · have hin : i < n.size := by omega
                have hin2 : (i : Int) < (n.size : Int) := by omega
                have hi0 : ((n[i]'hin).toNat : Int) = 91 := by rw [byte_get (HI.out i hlt) hin]; rfl
                go_wp2
                exact ⟨⟨i + 1, by go_num, by omega⟩, by simp [intOf]; omega⟩
              · obtain rfl : i = b := by omega
                by_cases hin : i < n.size
                · have hin2 : (i : Int) < (n.size : Int) := by omega
                  obtain ⟨x, hx⟩ : ∃ x, (bl n)[i]? = some x := ⟨_, List.getElem?_eq_getElem (by rw [Ty.bl_len]; exact hin)⟩
                  have hx0 : ((n[i]'hin).toNat : Int) = (x.toNat : Int) := by rw [byte_get hx hin]
                  have hx91 : ((x.toNat : Int) == 91) = false := by
                    refine (u8_int (c := x) (x := 91)).trans ?_
                    exact decide_eq_false (fun e => HE.out (by rw [hx, e]))
                  by_cases h16 : i < 16
                  · have hR : R = some ⟨4, ⟨#[91]⟩ ++ n⟩ := by rw [← HR.out, if_pos h16]
                    have h17 : decide ((16 : Int) ≤ (i : Int)) = false := decide_eq_false (by omega)
                    have h18 : ¬ (16 : Int) ≤ (i : Int) := by omega
                    clear hx
                    have HR2 := hid hR
                    clear hR
                    go_wp2
                    exact bodyPost_ret (v := .tuple #[.agg #[.int .i64 4, .string (⟨#[91]⟩ ++ n)], .bool true]) (by simp [results, Tryd.results10, go_sem]) rfl ⟨by rw [HR2.out]; rfl, (by repeat' first | with_reducible exact Below.refl _ _ | with_reducible assumption | with_reducible refine belows_drewN ?_ _ | with_reducible refine Below.drew ?_ | with_reducible refine Below.setCell ?_ ?_ _ | with_reducible refine Below.alloc ?_ ?_ _ | omega | (simp; done) | (simp; omega))⟩
                  · have hR : R = none := by rw [← HR.out, if_neg h16]
                    have h17 : decide ((16 : Int) ≤ (i : Int)) = true := decide_eq_true (by omega)
                    have h18 : (16 : Int) ≤ (i : Int) := by omega
                    clear hx
                    have HR2 := hid hR
                    clear hR
                    go_wp2
                    exact bodyPost_ret (v := .tuple #[.agg #[.int .i64 0, .string ⟨#[]⟩], .bool false]) (by simp [results, Tryd.results10, go_sem]) rfl ⟨by rw [HR2.out]; rfl, (by repeat' first | with_reducible exact Below.refl _ _ | with_reducible assumption | with_reducible refine belows_drewN ?_ _ | with_reducible refine Below.drew ?_ | with_reducible refine Below.setCell ?_ ?_ _ | with_reducible refine Below.alloc ?_ ?_ _ | omega | (simp; done) | (simp; omega))⟩
                · have hin2 : ¬ (i : Int) < (n.size : Int) := by omega
                  have hin3 : decide ((i : Int) < (n.size : Int)) = false := decide_eq_false hin2
                  by_cases h16 : i < 16
                  · have hR : R = some ⟨4, ⟨#[91]⟩ ++ n⟩ := by rw [← HR.out, if_pos h16]
                    have h17 : decide ((16 : Int) ≤ (i : Int)) = false := decide_eq_false (by omega)
                    have h18 : ¬ (16 : Int) ≤ (i : Int) := by omega
                    have HR2 := hid hR
                    clear hR
                    go_wp2
                    exact bodyPost_ret (v := .tuple #[.agg #[.int .i64 4, .string (⟨#[91]⟩ ++ n)], .bool true]) (by simp [results, Tryd.results10, go_sem]) rfl ⟨by rw [HR2.out]; rfl, (by repeat' first | with_reducible exact Below.refl _ _ | with_reducible assumption | with_reducible refine belows_drewN ?_ _ | with_reducible refine Below.drew ?_ | with_reducible refine Below.setCell ?_ ?_ _ | with_reducible refine Below.alloc ?_ ?_ _ | omega | (simp; done) | (simp; omega))⟩
                  · have hR : R = none := by rw [← HR.out, if_neg h16]
                    have h17 : decide ((16 : Int) ≤ (i : Int)) = true := decide_eq_true (by omega)
                    have h18 : (16 : Int) ≤ (i : Int) := by omega
                    have HR2 := hid hR
                    clear hR
                    go_wp2
                    exact bodyPost_ret (v := .tuple #[.agg #[.int .i64 0, .string ⟨#[]⟩], .bool false]) (by simp [results, Tryd.results10, go_sem]) rfl ⟨by rw [HR2.out]; rfl, (by repeat' first | with_reducible exact Below.refl _ _ | with_reducible assumption | with_reducible refine belows_drewN ?_ _ | with_reducible refine Below.drew ?_ | with_reducible refine Below.setCell ?_ ?_ _ | with_reducible refine Below.alloc ?_ ?_ _ | omega | (simp; done) | (simp; omega))⟩
          · have hbr : br (bl n) = 0 := by rw [hb, Ty.br_no _ hc]
            rw [if_pos hbr, ← ha1]
            rw [decide_eq_false hc] at hq2 hq3
            unfold tyO tyA
            clear hb hne hbr ha1 ha2
            go_enter Tryd.func10, Tryd.ntmps10
            go_wp2
            exact bodyPost_ret (v := .tuple #[.agg #[.int .i64 4, .string (⟨#[91, 76]⟩ ++ n ++ ⟨#[59]⟩)], .bool true]) (by simp [results, Tryd.results10, go_sem]) rfl ⟨rfl, (by repeat' first | with_reducible exact Below.refl _ _ | with_reducible assumption | with_reducible refine belows_drewN ?_ _ | with_reducible refine Below.drew ?_ | with_reducible refine Below.setCell ?_ ?_ _ | with_reducible refine Below.alloc ?_ ?_ _ | omega | (simp; done) | (simp; omega))⟩
      · rw [if_pos h4]
        have q1 : (k == 1) = false := by simpa using h1
        have q2 : (k == 2) = false := by simpa using h2
        have q4 : (k != 4) = true := by simpa using h4
        unfold tyO tyA
        go_enter Tryd.func10, Tryd.ntmps10
        go_wp2
        exact bodyPost_ret (v := .tuple #[.agg #[.int .i64 0, .string ⟨#[]⟩], .bool false]) (by simp [results, Tryd.results10, go_sem]) rfl ⟨rfl, (by repeat' first | with_reducible exact Below.refl _ _ | with_reducible assumption | with_reducible refine belows_drewN ?_ _ | with_reducible refine Below.drew ?_ | with_reducible refine Below.setCell ?_ ?_ _ | with_reducible refine Below.alloc ?_ ?_ _ | omega | (simp; done) | (simp; omega))⟩
end Go.Proofs.YtlbkhmfgbonelaaDoor
namespace Go.Proofs.YtlbkhmfgbonelaaDoor
open Go Go.RowKit
open Kit (natVals)

def lnL (x : Hi.Ln) : List Value := [.string x.1, .string x.2]
theorem lnL_len (x : Hi.Ln) : (lnL x).length = 2 := rfl
/-- Lines in a row of the call's own. -/
def Lns (w : World) (base : Nat) (v : Value) (L : List Hi.Ln) : Prop := w.ownsRow base 59 2 v L.length (L.flatMap lnL)
theorem Lns.at {w : World} {base : Nat} {v : Value} {L : List Hi.Ln} (h : Lns w base v L) {k : Nat} {x : Hi.Ln} (hx : L[k]? = some x) : ∃ b p, v = .slice (some ⟨b, 0, none⟩) L.length p ∧ b < w.heap.size ∧ w.cell? ⟨b, k * 2, none⟩ = some (.string x.1) ∧ w.cell? ⟨b, k * 2 + 1, none⟩ = some (.string x.2) := by
  have hk := (List.getElem?_eq_some_iff.1 hx).1
  rcases h.2 with ⟨-, h2⟩ | ⟨g, cap, cur, h1, hg, hh, hc1, hc2, hc3, ht⟩
  · omega
  · refine ⟨g, cap, h1, (Array.getElem?_eq_some_iff.1 hh).1, ?_⟩
    have hl := h.1
    have hat : ∀ j, j < 2 → w.cell? ⟨g, k * 2 + j, none⟩ = (lnL x)[j]? := fun j hj => by
      have hx2 := Kit.flat_at lnL_len hx j hj
      have : cur[k * 2 + j]? = (lnL x)[j]? := by
        rw [← ht, List.getElem?_take_of_lt (by omega)] at hx2
        simpa using hx2
      simp [World.cell?, hh, this]
    exact ⟨hat 0 (by omega), hat 1 (by omega)⟩
theorem Lns.below {w w' : World} {base : Nat} {v : Value} {L : List Hi.Ln} (h : Lns w base v L) (hb : Below w.heap.size w w') : Lns w' base v L := Kit.owns_below h hb (Nat.le_refl _)
theorem infoC : (Tryd.prog.info? 93).map (fun i => (i.zero, i.size, i.bytes)) = some (some (.agg #[.string ⟨#[]⟩, .int .i64 0, .int .i64 0, .slice none 0 0]), 4, 56) := by kernel_rfl
/-- What nameAll begins with. -/
structure Bare (H : HV) (L : List Hi.Ln) : Prop where
  n : H.n = 0
  nm : H.nm = Hi.nmf L
  su : ∀ k, H.su k = -1
  dp : ∀ k, H.dp k = 0
  sv : ∀ k, H.sv k = .slice none 0 0
  sb : ∀ k, H.sb k = []
  od : H.od = []
/-- Where it stands. -/
structure NaI (w : World) (base : Nat) (H : HV) (lv : Value) (L : List Hi.Ln) (k : Nat) (cv : Value) (W : World) : Prop where
  hm : HM W base { H with cv := cv, n := k }
  ln : Lns W base lv L
  bel : Below base w W
  sz : w.heap.size ≤ W.heap.size
  nd : (Hi.nms (L.take k)).Nodup
theorem NaI.below {w W W' : World} {base : Nat} {H : HV} {lv cv : Value} {L : List Hi.Ln} {k : Nat} (h : NaI w base H lv L k cv W) (hb : Below W.heap.size W W') (hw : base ≤ w.heap.size) : NaI w base H lv L k cv W' :=
  ⟨h.hm.below hb, h.ln.below hb, belows h.bel hb (Nat.le_trans hw h.sz), Nat.le_trans h.sz hb.size, h.nd⟩
def NaPost (base : Nat) (H : HV) (lv : Value) (L : List Hi.Ln) (w : World) (e : Ending) (w' : World) : Prop :=
  Below base w w' ∧ w.heap.size ≤ w'.heap.size ∧ ((e = .returned (.bool false) ∧ ¬ (Hi.nms L).Nodup) ∨ (e = .returned (.bool true) ∧ (Hi.nms L).Nodup ∧ ∃ cv, HM w' base { H with cv := cv, n := L.length } ∧ Lns w' base lv L))
theorem take_snoc {L : List Hi.Ln} {k : Nat} {x : Hi.Ln} (hx : L[k]? = some x) : Hi.nms (L.take (k + 1)) = Hi.nms (L.take k) ++ [x.1] := by
  unfold Hi.nms
  rw [List.take_add_one, hx, List.map_append]
  rfl
theorem nodup_take {L : List Hi.Ln} (k : Nat) (h : (Hi.nms L).Nodup) : (Hi.nms (L.take k)).Nodup := by
  unfold Hi.nms at *
  rw [List.map_take]
  exact h.sublist (List.take_sublist _ _)
theorem NaI.step {w W1 w2 w2' w3 : World} {base : Nat} {H : HV} {lv cv v2 : Value} {L : List Hi.Ln} {k : Nat} {x : Hi.Ln} (h : NaI w base H lv L k cv W1) (hB : Bare H L) (hx : L[k]? = some x) (hr : none = Hi.idx x.1 ({ H with cv := cv, n := k } : HV).names)
    (hcg : Chg (fun i => i = H.mb) W1 w2) (hm : NmM w2 H.mb (({ H with cv := cv, n := k } : HV).names ++ [x.1])) (hb : Below w2.heap.size w2 w2') (hg : w2'.grownBy w3 cv.ownBlock)
    (ho : w3.ownsRow base 93 4 v2 (k + 1) (({ H with cv := cv, n := k } : HV).rows ++ [.string x.1, .int .i64 (-1), .int .i64 0, .slice none 0 0])) (hw : base ≤ w.heap.size) :
    w3.cell? ⟨H.hb, 0, none⟩ = some cv ∧ w3.frozen? ⟨H.hb, 0, none⟩ = false ∧ NaI w base H lv L (k + 1) v2 (w3.setCell ⟨H.hb, 0, none⟩ v2) := by
  have hmm := h.hm
  have hk := (List.getElem?_eq_some_iff.1 hx).1
  have hc23 := (Chg.of_below (S := fun i => cv.ownBlock = some i) hb).grown hg (fun j e => .inl e)
  have hc3 := ((hcg.mono (T := fun i => i = H.mb ∨ cv.ownBlock = some i) (fun i _ e => .inl e)).below hb).grown hg (fun j e => .inl (.inr e))
  have hbx : BX w3 H.hb #[cv, .map (some H.mb), H.ov] 76 := BX.chg (w := W1) hmm.box hc3 (by rintro (e | e); exact hmm.ne e; exact own_unlike_box hmm.cls hmm.box (by decide) e)
  have hm3 := hm.keep (hc23.block _ hm.lt (fun e => own_map hmm.cls hmm.map e))
  have hnx : H.nm k = x.1 := by rw [hB.nm]; unfold Hi.nmf; rw [hx]
  have hrow : ({ H with cv := cv, n := k } : HV).row k = [.string x.1, .int .i64 (-1), .int .i64 0, .slice none 0 0] := by
    unfold HV.row
    dsimp only
    rw [hnx, hB.su, hB.dp, hB.sv]
    rfl
  have hA := hmm.setCv hc3 (u := v2) (by rw [← hrow] at ho; exact ho) (by rw [← hnx] at hm3; exact hm3) (hB.sv k) (hB.sb k)
  have hS : Chg (fun i => i = H.mb ∨ cv.ownBlock = some i ∨ i = H.hb) W1 (w3.setCell ⟨H.hb, 0, none⟩ v2) := (hc3.mono (T := fun i => i = H.mb ∨ cv.ownBlock = some i ∨ i = H.hb) (fun i _ e => by rcases e with e | e; exact .inl e; exact .inr (.inl e))).set (.inl (.inr (.inr rfl))) _
  have hlow := hmm.low
  have hbW := Nat.le_trans hw h.sz
  refine ⟨hbx.cell 0, hbx.frozen 0, hA, owns_chg h.ln hS (fun j e => ?_), h.bel.trans (hS.to_below (fun j e => ?_) hbW), Nat.le_trans h.sz hS.size, ?_⟩
  · rintro (rfl | e2 | rfl)
    · exact own_map h.ln hmm.map e
    · exact own_unlike h.ln hmm.cls (by decide) j e e2
    · exact own_unlike_box h.ln hmm.box (by decide) e
  · rcases e with rfl | e2 | rfl
    · exact hmm.lm
    · exact Kit.own_base hmm.cls j e2
    · exact hmm.lh
  · rw [take_snoc hx, Hi.nodup_snoc]
    refine ⟨h.nd, ?_⟩
    rw [← Hi.idx_none, Hi.nmf_take L (by omega), ← hB.nm]
    exact hr.symm
set_option maxRecDepth 100000 in
set_option maxHeartbeats 1000000 in
theorem nameAll_any {w : World} {base : Nat} {H : HV} {lv : Value} {L : List Hi.Ln} (h : HM w base H) (hl : Lns w base lv L) (hB : Bare H L) (hn : L.length ≤ 72) (hs : ∀ x ∈ L, x.1.size ≤ maxLen) :
    Calls Tryd.prog 44 #[.pointer (some ⟨H.hb, 0, none⟩), lv] w (NaPost base H lv L w) := by
  obtain ⟨i0, hi, hz0, hz1, hz2⟩ := info_parts infoC
  have hbase := Nat.le_of_lt h.base_lt
  obtain ⟨a, p, rfl⟩ := own_form hl
  have H0 : NaI w base H (.slice a L.length p) L 0 H.cv w := ⟨by have e : ({ H with cv := H.cv, n := 0 } : HV) = H := (by rw [← hB.n]); rw [e]; exact h, hl, Below.refl _ _, Nat.le_refl _, by simp [Hi.nms]⟩
  have HI := hid H0
  have HS := hid hs
  have HBr := hid hB
  clear H0 hs h hl hB
  go_enter Tryd.func44, Tryd.ntmps44
  go_wp2
  go_loopw [11] (fun i wr => ∃ (k : Nat) (cv : Value), i = .int .i64 (k : Int) ∧ k ≤ L.length ∧ Hid (NaI w base H (.slice a L.length p) L k cv wr)) (fun i _ => L.length - (intOf i).toNat)
  case atStart => exact ⟨0, H.cv, rfl, by omega, HI⟩
  case round =>
    clear HI
    obtain ⟨k, cv, rfl, hk, HI⟩ := hrel
    by_cases hlt : k < L.length
    · obtain ⟨x, hx⟩ : ∃ x, L[k]? = some x := ⟨_, List.getElem?_eq_getElem hlt⟩
      obtain ⟨b, p', hv, hbl, y0, y1⟩ := HI.out.ln.at hx
      obtain ⟨rfl, -, rfl⟩ := Value.slice.inj hv
      have HX := hid hx
      have hxs := HS.out x (List.mem_of_getElem? hx)
      have hI1 := HI.out.below (W' := wr.alloc (.cells #[.string x.1, .string x.2] 59)) ((Below.refl _ _).alloc (Nat.le_refl _) _) hbase
      obtain ⟨k0, k1, k2⟩ := HI.out.hm.cells
      dsimp only at k0 k1 k2
      have hlk := fun m => (hI1.hm.drewN m).map.look x.1 hxs
      have hbw := HI.out.hm.hb_lt
      dsimp only at hbw hlk
      have HI1 := hid hI1
      have hne : (wr.alloc (.cells #[.string x.1, .string x.2] 59)).heap.size = wr.heap.size + 1 := by simp
      obtain ⟨r, hr⟩ : ∃ r, r = Hi.idx x.1 ({ H with cv := cv, n := k } : HV).names := ⟨_, rfl⟩
      rw [← hr] at hlk
      have HR := hid hr
      clear hv hx hI1 hr
      cases r with
      | none =>
        simp only [Option.isSome_none, Option.getD_none] at hlk
        go_wp2
        go_quiet (fail)
        obtain ⟨W1, hW1⟩ : ∃ W1, W1 = (wr.alloc (.cells #[.string x.1, .string x.2] 59)).drewN nq := ⟨_, rfl⟩
        have hI2 := HI1.out.below (W' := W1) (by rw [hW1]; exact below_drewN _ _) hbase
        have bx : BX W1 wr.heap.size #[.string x.1, .string x.2] 59 := by rw [hW1]; exact BX.new wr _ _
        have hkl : (({ H with cv := cv, n := k } : HV).names).length = k := by simp [HV.names]
        obtain ⟨w2, hup, k3, hg⟩ := (show HM W1.drew base { H with cv := cv, n := k } from hI2.hm.drewN 1).map.put x.1 hxs (by rw [hkl]; omega) HR.out.symm
        rw [hkl] at hup
        rw [← hW1]
        have hmm := hI2.hm
        obtain ⟨k0, k1, k2⟩ := hmm.cells
        obtain ⟨ca, cp, hcv⟩ := own_form hmm.cls
        dsimp only at k0 k1 k2 hup k3 hg hcv
        have x0 := bx.cell 0
        have hcg := (Chg.of_below (S := fun i => i = H.mb) ((below_drewN W1 1) : Below W1.heap.size W1 W1.drew)).grown hg (fun k e => .inl (by cases e; rfl))
        have bx2 := bx.chg hcg (fun e => by have h1 := HI.out.hm.mb_lt; dsimp only at h1; omega)
        have bh2 : BX w2 H.hb #[cv, .map (some H.mb), H.ov] 76 := BX.chg (w := W1) hmm.box hcg hmm.ne
        have HMM := hid hmm
        have HCG := hid hcg
        have HK3 := hid k3
        have HOc := hid (fun X (b : Below w2.heap.size w2 X) => Kit.owns_below (owns_chg hmm.cls hcg (fun j e e2 => own_map hmm.cls hmm.map (e2 ▸ e))) b (Nat.le_refl _))
        subst hcv
        have hw12 := hcg.size
        have HI2 := hid hI2
        have hsz1 := hI2.sz
        clear hW1 hI2 bx hg k3 hcg hmm k2
        go_wp2
        go_region
        obtain ⟨z0, z1, z2⟩ : w2.cell? ⟨H.hb, 0, none⟩ = some (.slice ca k cp) ∧ w2.frozen? ⟨H.hb, 0, none⟩ = false ∧ w2.cell? ⟨wr.heap.size, 0, none⟩ = some (.string x.1) := ⟨bh2.cell 0, bh2.frozen 0, bx2.cell 0⟩
        have hbs := bh2.sz
        have hbs2 := bx2.sz
        clear k0 k1 x0 bh2 bx2 hup
        go_wp2
        go_region_law (refine Kit.step_append_own rfl (.tmp 38) (.tmp 42) 73 rfl base 93 i0 _ 4 56 Tryd.underlying73 hi hz0 hz1 hz2 rfl (by decide) (.slice ca k cp) k _ rfl (HOc.out _ (by repeat' first | with_reducible exact Below.refl _ _ | with_reducible assumption | with_reducible refine belows_drewN ?_ _ | with_reducible refine Below.drew ?_ | with_reducible refine Below.setCell ?_ ?_ _ | with_reducible refine Below.alloc ?_ ?_ _ | omega | (simp; done) | (simp; omega))) ⟨w2.heap.size, 0, none⟩ 1 1 [.string x.1, .int .i64 (-1), .int .i64 0, .slice none 0 0] rfl rfl (news_of _ _ _) (by intro u hu; simp at hu; rcases hu with rfl | rfl | rfl | rfl <;> rfl) (by unfold maxLen; omega) (by omega) (by first | omega | (simp; omega)) ?_; intro v2 w3 ho3 hg3 hk3; obtain ⟨c3, y3, hN⟩ := HI2.out.step HBr.out HX.out HR.out HCG.out HK3.out (by repeat' first | with_reducible exact Below.refl _ _ | with_reducible assumption | with_reducible refine belows_drewN ?_ _ | with_reducible refine Below.drew ?_ | with_reducible refine Below.setCell ?_ ?_ _ | with_reducible refine Below.alloc ?_ ?_ _ | omega | (simp; done) | (simp; omega)) hg3 ho3 hbase; have HN := hid hN; obtain ⟨b2, q2, rfl⟩ := own_form ho3; clear ho3 hg3 hk3 hN)
        all_goals
          go_wp2
          go_roundw
          case rel => exact ⟨k + 1, _, by go_num, by omega, HN⟩
          case measure => simp [intOf]; omega
      | some j =>
        simp only [Option.isSome_some, Option.getD_some] at hlk
        go_wp2
        go_quiet (fail)
        go_wp2
        go_ret
        refine ⟨belows HI1.out.bel (below_drewN _ _) (Nat.le_trans hbase HI1.out.sz), Nat.le_trans HI1.out.sz (Nat.le_refl _), .inl ⟨rfl, fun hnd => ?_⟩⟩
        have h1 := nodup_take (k + 1) hnd
        rw [take_snoc HX.out, Hi.nodup_snoc, ← Hi.idx_none, Hi.nmf_take L hk, ← HBr.out.nm] at h1
        have h2 := HR.out
        rw [show ({ H with cv := cv, n := k } : HV).names = (List.range k).map H.nm from rfl, h1.2] at h2
        cases h2
    · obtain rfl : k = L.length := by omega
      go_wp2
      go_ret
      refine ⟨HI.out.bel, HI.out.sz, .inr ⟨rfl, by have := HI.out.nd; rwa [List.take_length] at this, cv, HI.out.hm, HI.out.ln⟩⟩
end Go.Proofs.YtlbkhmfgbonelaaDoor
namespace Go.Proofs.YtlbkhmfgbonelaaDoor
open Go Go.RowKit
open Kit (natVals)

theorem own_frz {w : World} {base : Nat} {e : TypeId} {size : Nat} {v : Value} {n : Nat} {xs : List Value} (h : w.ownsRow base e size v n xs) {g : Nat} (hg : v.ownBlock = some g) : ∀ i, w.frozen? ⟨g, i, none⟩ = false := by
  rcases h.2 with ⟨rfl, -⟩ | ⟨g', cap, cur, rfl, hb, hh, -⟩
  · simp [Value.ownBlock] at hg
  · simp only [Value.ownBlock, Option.some.injEq] at hg
    subst hg
    intro i
    simp [World.frozen?, hh]
def suK (L : List Hi.Ln) (k : Nat) : Nat → Int := fun j => if 1 ≤ j ∧ j < k then (Hi.sup L j : Int) else -1
def hung (H : HV) (L : List Hi.Ln) (k : Nat) (sv : Nat → Value) : HV := { H with su := suK L k, sv := sv, sb := Hi.ch k (Hi.sup L) }
/-- Where hangAll stands. -/
structure HaI (w : World) (base : Nat) (H : HV) (lv : Value) (L : List Hi.Ln) (k : Nat) (sv : Nat → Value) (W : World) : Prop where
  hm : HM W base (hung H L k sv)
  ln : Lns W base lv L
  bel : Below base w W
  sz : w.heap.size ≤ W.heap.size
  ok : ∀ j x, 1 ≤ j → j < k → L[j]? = some x → Hi.idx x.2 (Hi.nms L) ≠ none
theorem HaI.below {w W W' : World} {base : Nat} {H : HV} {lv : Value} {sv : Nat → Value} {L : List Hi.Ln} {k : Nat} (h : HaI w base H lv L k sv W) (hb : Below W.heap.size W W') (hw : base ≤ w.heap.size) : HaI w base H lv L k sv W' :=
  ⟨h.hm.below hb, h.ln.below hb, belows h.bel hb (Nat.le_trans hw h.sz), Nat.le_trans h.sz hb.size, h.ok⟩
theorem hung_one (H : HV) (L : List Hi.Ln) (sv : Nat → Value) : hung H L 1 sv = hung H L 0 sv := by
  unfold hung
  have e1 : suK L 1 = suK L 0 := by
    funext j
    unfold suK
    rw [if_neg (by omega), if_neg (by omega)]
  have e2 : Hi.ch 1 (Hi.sup L) = Hi.ch 0 (Hi.sup L) := by
    funext s
    rw [Hi.ch_one, Hi.ch_zero]
  rw [e1, e2]
theorem HaI.first {w W : World} {base : Nat} {H : HV} {lv : Value} {sv : Nat → Value} {L : List Hi.Ln} (h : HaI w base H lv L 0 sv W) : HaI w base H lv L 1 sv W :=
  ⟨by rw [hung_one]; exact h.hm, h.ln, h.bel, h.sz, fun j x h1 h2 => by omega⟩
/-- A super is written down. -/
theorem HaI.super {w W : World} {base : Nat} {H : HV} {lv : Value} {sv : Nat → Value} {L : List Hi.Ln} {k s g p : Nat} {x : Hi.Ln} (h : HaI w base H lv L k sv W) (hn : H.n = L.length) (hk : 1 ≤ k) (hx : L[k]? = some x) (hs : Hi.idx x.2 (Hi.nms L) = some s) (hv : H.cv = .slice (some ⟨g, 0, none⟩) H.n p) :
    HM (W.setCell ⟨g, k * 4 + 1, none⟩ (.int .i64 (s : Int))) base { hung H L k sv with su := suK L (k + 1) } ∧ Hi.sup L k = s := by
  have hlt := (List.getElem?_eq_some_iff.1 hx).1
  have hsup : Hi.sup L k = s := by unfold Hi.sup; rw [hx]; dsimp only; rw [hs]; rfl
  refine ⟨?_, hsup⟩
  refine h.hm.setRow (k := k) (i := 1) (u := .int .i64 (s : Int)) (su := suK L (k + 1)) (dp := H.dp) (by show k < H.n; omega) (by omega) hv ?_ (fun j hj => ⟨?_, rfl⟩)
  · unfold HV.row
    dsimp only
    unfold suK
    rw [if_pos (by omega), hsup]
    rfl
  · show suK L (k + 1) j = suK L k j
    unfold suK
    by_cases e : 1 ≤ j ∧ j < k
    · rw [if_pos e, if_pos (by omega)]
    · rw [if_neg e, if_neg (by omega)]
/-- One more class under its super. -/
theorem HaI.step {w W W1 W2 w3 : World} {base : Nat} {H : HV} {lv u : Value} {sv : Nat → Value} {L : List Hi.Ln} {k s g p : Nat} {x : Hi.Ln} (h : HaI w base H lv L k sv W) (hn : H.n = L.length) (hk : 1 ≤ k) (hx : L[k]? = some x) (hs : Hi.idx x.2 (Hi.nms L) = some s) (hv : H.cv = .slice (some ⟨g, 0, none⟩) H.n p)
    (hW1 : W1 = W.setCell ⟨g, k * 4 + 1, none⟩ (.int .i64 (s : Int))) (hb : Below W1.heap.size W1 W2) (hg : W2.grownBy w3 (sv s).ownBlock) (hu : u.ownBlock = (sv s).ownBlock ∨ u.ownBlock = some W2.heap.size)
    (ho : w3.ownsRow base 3 1 u ((Hi.ch k (Hi.sup L) s).length + 1) (natVals (Hi.ch k (Hi.sup L) s) ++ [.int .i64 (k : Int)])) (hw : base ≤ w.heap.size) :
    w3.cell? ⟨H.hb, 0, none⟩ = some H.cv ∧ w3.cell? ⟨g, s * 4 + 3, none⟩ = some (sv s) ∧ w3.frozen? ⟨g, s * 4 + 3, none⟩ = false ∧ HaI w base H lv L (k + 1) (upd sv s u) (w3.setCell ⟨g, s * 4 + 3, none⟩ u) := by
  obtain ⟨hM, hsup⟩ := h.super hn hk hx hs hv
  rw [← hW1] at hM
  have hsn : s < H.n := by have := Hi.idx_lt hs; rw [Hi.nms_len] at this; omega
  have hgb : H.cv.ownBlock = some g := by rw [hv]; rfl
  have hc13 := (Chg.of_below (S := fun i => (sv s).ownBlock = some i) hb).grown hg (fun j e => .inl e)
  have hsub : W1.ownsRow base 3 1 (sv s) _ _ := hM.sub s hsn
  have hcls1 := owns_chg hM.cls hc13 (fun j e e2 => own_unlike hM.cls hsub (by decide) j e e2)
  have hl1 : (Hi.ch k (Hi.sup L) s ++ [k]).length = (Hi.ch k (Hi.sup L) s).length + 1 := by simp
  have hA := hM.setSv (w1 := w3) (u := u) (l := Hi.ch k (Hi.sup L) s ++ [k]) hsn hv hc13 (by rw [hl1, Kit.natVals_snoc]; exact ho) (by
    rcases hu with e | e
    · exact .inl e
    · exact .inr ⟨_, hb.size, e⟩)
  have hSt : Chg (fun i => i = g ∨ (sv s).ownBlock = some i) W (w3.setCell ⟨g, s * 4 + 3, none⟩ u) := by
    have h1 : Chg (fun i => i = g ∨ (sv s).ownBlock = some i) W W1 := by rw [hW1]; exact (Chg.refl _ _).set (p := ⟨g, k * 4 + 1, none⟩) (.inl (.inl rfl)) _
    have h2 : Chg (fun i => i = g ∨ (sv s).ownBlock = some i) W w3 := h1.trans hc13 (fun i e => .inl (.inr e))
    exact h2.set (p := ⟨g, s * 4 + 3, none⟩) (.inl (.inl rfl)) _
  refine ⟨?_, ?_, own_frz hcls1 hgb _, ⟨?_, ?_, ?_, ?_, ?_⟩⟩
  · have hbx : BX w3 H.hb #[H.cv, .map (some H.mb), H.ov] 76 := BX.chg (w := W1) hM.box hc13 (own_unlike_box hsub hM.box (by decide))
    exact hbx.cell 0
  · have hHM1 : HV.at { hung H L k sv with su := suK L (k + 1) } (k := s) (j := 3) hsn (by omega) = HV.at { hung H L k sv with su := suK L (k + 1) } (k := s) (j := 3) hsn (by omega) := rfl
    have hat := HV.at { hung H L k sv with su := suK L (k + 1) } (k := s) (j := 3) hsn (by omega)
    rcases hcls1.2 with ⟨e, -⟩ | ⟨g', cap, cur, e, hgg, hh, c1, c2, c3, ht⟩
    · have e' : H.cv = .slice none 0 0 := e
      rw [hv] at e'; cases e'
    · have e' : H.cv = .slice (some ⟨g', 0, none⟩) H.n cap := e
      rw [hv] at e'
      obtain ⟨e1, -, rfl⟩ := Value.slice.inj e'
      obtain rfl : g = g' := by simpa using e1
      have hl := hcls1.1
      have hlt : s * 4 + 3 < ({ hung H L k sv with su := suK L (k + 1) } : HV).rows.length := by rw [hl]; show s * 4 + 3 < H.n * 4; omega
      have hc : cur[s * 4 + 3]? = some (sv s) := by
        rw [← ht, List.getElem?_take_of_lt (by show s * 4 + 3 < H.n * 4; omega)] at hat
        have : (HV.row { hung H L k sv with su := suK L (k + 1) } s)[3]? = some (sv s) := rfl
        rw [this] at hat
        simpa using hat
      simp [World.cell?, hh, hc]
  · have e : hung H L (k + 1) (upd sv s u) = { hung H L k sv with su := suK L (k + 1), sv := upd sv s u, sb := upd (Hi.ch k (Hi.sup L)) s (Hi.ch k (Hi.sup L) s ++ [k]) } := by
      unfold hung
      have e2 : Hi.ch (k + 1) (Hi.sup L) = upd (Hi.ch k (Hi.sup L)) s (Hi.ch k (Hi.sup L) s ++ [k]) := by
        funext j
        rw [Hi.ch_snoc, hsup]
        unfold upd
        by_cases e : j = s
        · subst e; rw [if_pos ⟨hk, rfl⟩, if_pos rfl]
        · rw [if_neg (fun e2 => e e2.2.symm), if_neg e]
      rw [e2]
    rw [e]
    exact hA
  · refine owns_chg h.ln hSt (fun j e => ?_)
    rintro (rfl | e2)
    · exact own_unlike h.ln h.hm.cls (by decide) j e hgb
    · exact own_unlike h.ln (h.hm.sub s hsn) (by decide) j e e2
  · refine h.bel.trans (hSt.to_below (fun j e => ?_) (Nat.le_trans hw h.sz))
    rcases e with rfl | e2
    · exact Kit.own_base h.hm.cls j hgb
    · exact Kit.own_base (h.hm.sub s hsn) j e2
  · exact Nat.le_trans h.sz hSt.size
  · intro j y h1 h2 hy
    by_cases e : j = k
    · subst e
      rw [hx] at hy
      cases hy
      rw [hs]; simp
    · exact h.ok j y h1 (by omega) hy
def HaPost (base : Nat) (H : HV) (L : List Hi.Ln) (w : World) (e : Ending) (w' : World) : Prop :=
  Below base w w' ∧ w.heap.size ≤ w'.heap.size ∧ ((e = .returned (.bool false) ∧ ∃ k x, 1 ≤ k ∧ L[k]? = some x ∧ Hi.idx x.2 (Hi.nms L) = none) ∨
    (e = .returned (.bool true) ∧ (∀ k x, 1 ≤ k → L[k]? = some x → Hi.idx x.2 (Hi.nms L) ≠ none) ∧ ∃ sv, HM w' base (hung H L L.length sv)))
set_option maxRecDepth 100000 in
set_option maxHeartbeats 1000000 in
theorem hangAll_any {w : World} {base : Nat} {H : HV} {lv : Value} {L : List Hi.Ln} (h : HM w base H) (hl : Lns w base lv L) (hn : H.n = L.length) (hn1 : L.length ≤ 72) (hnm : H.nm = Hi.nmf L) (hs : ∀ x ∈ L, x.2.size ≤ maxLen)
    (hsu : ∀ k, H.su k = -1) (hsb : ∀ k, H.sb k = []) :
    Calls Tryd.prog 45 #[.pointer (some ⟨H.hb, 0, none⟩), lv] w (HaPost base H L w) := by
  obtain ⟨i0, hi, hz0, hz1, hz2⟩ := info_parts infoI
  have hbase := Nat.le_of_lt h.base_lt
  obtain ⟨a, p, rfl⟩ := own_form hl
  have e0 : hung H L 0 H.sv = H := by
    unfold hung
    have e1 : suK L 0 = H.su := by funext j; rw [hsu]; unfold suK; rw [if_neg (by omega)]
    have e2 : Hi.ch 0 (Hi.sup L) = H.sb := by funext j; rw [hsb]; rfl
    rw [e1, e2]
  have H0 : HaI w base H (.slice a L.length p) L 0 H.sv w := ⟨by rw [e0]; exact h, hl, Below.refl _ _, Nat.le_refl _, fun j x h1 h2 => by omega⟩
  have hnames : H.names = Hi.nms L := by unfold HV.names; rw [hn, hnm]; exact (Hi.nms_eq L).symm
  have HI := hid H0
  have HS := hid hs
  have HN := hid hn
  have HNM := hid hnames
  have HC := hid (fun (hp : 1 ≤ H.n) => h.sight hp)
  clear H0 hs h hl e0 hsu hsb hnm hnames hn
  go_enter Tryd.func45, Tryd.ntmps45
  go_wp2
  go_loopw [11] (fun i wr => ∃ (k : Nat) (sv : Nat → Value), i = .int .i64 (k : Int) ∧ k ≤ L.length ∧ Hid (HaI w base H (.slice a L.length p) L k sv wr)) (fun i _ => L.length - (intOf i).toNat)
  case atStart => exact ⟨0, H.sv, rfl, by omega, HI⟩
  case round =>
    clear HI
    obtain ⟨k, sv, rfl, hk, HI⟩ := hrel
    by_cases hlt : k < L.length
    · obtain ⟨x, hx⟩ : ∃ x, L[k]? = some x := ⟨_, List.getElem?_eq_getElem hlt⟩
      obtain ⟨b, p', hv, hbl, y0, y1⟩ := HI.out.ln.at hx
      obtain ⟨rfl, -, rfl⟩ := Value.slice.inj hv
      have hI1 := HI.out.below (W' := wr.alloc (.cells #[.string x.1, .string x.2] 59)) ((Below.refl _ _).alloc (Nat.le_refl _) _) hbase
      have HI1 := hid hI1
      have HX := hid hx
      by_cases hk0 : k = 0
      · subst hk0
        clear hx hI1 hv
        go_wp2
        go_roundw
        case rel => exact ⟨1, sv, by go_num, by omega, HI1.out.first⟩
        case measure => simp [intOf]; omega
      · have hk1 : 1 ≤ k := by omega
        have hki : ¬ ((k : Int) = 0) := by omega
        have hxs := HS.out x (List.mem_of_getElem? hx)
        have hlk := fun m => (hI1.hm.drewN m).map.look x.2 hxs
        obtain ⟨k0, k1, k2⟩ := HI.out.hm.cells
        obtain ⟨r, hr⟩ : ∃ r, r = Hi.idx x.2 (hung H L k sv).names := ⟨_, rfl⟩
        rw [← hr] at hlk
        have hr2 : r = Hi.idx x.2 (Hi.nms L) := by rw [hr, ← HNM.out]; rfl
        have HR := hid hr2
        have hbw := HI.out.hm.hb_lt
        obtain ⟨g, pc, hcv, -, -⟩ := HC.out (by rw [HN.out]; omega)
        obtain ⟨g2, p2, e4, hgl, hsi⟩ := HI.out.hm.sight (by show 1 ≤ H.n; rw [HN.out]; omega)
        rw [show (hung H L k sv).cv = H.cv from rfl, hcv] at e4 k0
        obtain ⟨e5, -, rfl⟩ := Value.slice.inj e4
        rw [Option.some.injEq, Addr.mk.injEq] at e5
        obtain ⟨rfl, -, -⟩ := e5
        have hfr := own_frz HI.out.hm.cls (show H.cv.ownBlock = some g by rw [hcv]; rfl) (k * 4 + 1)
        have HCV := hid hcv
        rw [HN.out] at k0
        have hwl := HI.out.sz
        change wr.cell? ⟨H.hb, 1, none⟩ = some (.map (some H.mb)) at k1
        change wr.cell? ⟨H.hb, 0, none⟩ = _ at k0
        change H.hb < wr.heap.size at hbw
        change ∀ m, _ = _ at hlk
        have hsim : (hung H L k sv).mb = H.mb := rfl
        rw [hsim] at hlk
        clear hv hx hI1 hr hr2 e4 hsim hki
        have hki : ¬ ((k : Int) = 0) := by omega
        cases r with
        | none =>
          simp only [Option.isSome_none, Option.getD_none] at hlk
          clear hsi
          go_wp2
          go_quiet (fail)
          go_wp2
          go_ret
          exact ⟨belows HI1.out.bel (below_drewN _ _) (Nat.le_trans hbase HI1.out.sz), Nat.le_trans HI1.out.sz (Nat.le_refl _), .inl ⟨rfl, k, x, hk1, HX.out, HR.out.symm⟩⟩
        | some s =>
          simp only [Option.isSome_some, Option.getD_some] at hlk
          have hsn : s < L.length := by have := Hi.idx_lt HR.out.symm; rwa [Hi.nms_len] at this
          go_wp2
          obtain ⟨-, c1, -, -⟩ := hsi k (by show k < H.n; rw [HN.out]; exact hlt)
          clear hsi
          go_quiet (fail)
          go_wp2
          have HI2 := hid (HI1.out.below (W' := (wr.alloc (.cells #[.string x.1, .string x.2] 59)).drewN nq) (below_drewN _ _) hbase)
          obtain ⟨hM, -⟩ := HI2.out.super HN.out hk1 HX.out HR.out.symm HCV.out
          obtain ⟨W1, hW1⟩ : ∃ W1, W1 = ((wr.alloc (.cells #[.string x.1, .string x.2] 59)).drewN nq).setCell ⟨g, k * 4 + 1, none⟩ (.int .i64 (s : Int)) := ⟨_, rfl⟩
          have HW1 := hid hW1
          rw [← hW1] at hM ⊢
          obtain ⟨z0, -, -⟩ := hM.cells
          obtain ⟨g2, p2, e4, hg1, hsi⟩ := hM.sight (by show 1 ≤ H.n; rw [HN.out]; omega)
          change H.cv = _ at e4
          rw [HCV.out] at e4
          obtain ⟨e5, -, rfl⟩ := Value.slice.inj e4
          rw [Option.some.injEq, Addr.mk.injEq] at e5
          obtain ⟨rfl, -, -⟩ := e5
          obtain ⟨-, -, -, s3⟩ := hsi s (by show s < H.n; rw [HN.out]; exact hsn)
          change W1.cell? ⟨g, s * 4 + 3, none⟩ = some (sv s) at s3
          change W1.cell? ⟨H.hb, 0, none⟩ = some H.cv at z0
          rw [HCV.out, HN.out] at z0
          have hlen := Hi.ch_len k (Hi.sup L) s
          have HOw := hid (fun X (b : Below W1.heap.size W1 X) => Kit.owns_below (hM.sub s (by show s < H.n; rw [HN.out]; exact hsn)) b (Nat.le_refl _))
          have hbl1 := hM.hb_lt
          have hbb := hM.base_lt
          obtain ⟨u, hu⟩ : ∃ u, sv s = u := ⟨_, rfl⟩
          have HU := hid hu
          rw [hu] at s3
          change Hid (∀ X, Below W1.heap.size W1 X → X.ownsRow base 3 1 (sv s) (Hi.ch k (Hi.sup L) s).length (natVals (Hi.ch k (Hi.sup L) s))) at HOw
          rw [hu] at HOw
          obtain ⟨ua, ucap, rfl⟩ := own_form (HOw.out W1 (Below.refl _ _))
          clear hM hW1 hsi e4 hu k0 c1 hfr hlk y0 y1 k1
          change H.hb < W1.heap.size at hbl1
          go_region_law (refine Kit.step_append_own rfl (.tmp 50) (.tmp 52) 74 rfl base 3 i0 _ 1 8 Tryd.underlying74 hi hz0 hz1 hz2 rfl (by decide) (.slice ua (Hi.ch k (Hi.sup L) s).length ucap) (Hi.ch k (Hi.sup L) s).length _ rfl (HOw.out _ (by repeat' first | with_reducible exact Below.refl _ _ | with_reducible assumption | with_reducible refine belows_drewN ?_ _ | with_reducible refine Below.drew ?_ | with_reducible refine Below.setCell ?_ ?_ _ | with_reducible refine Below.alloc ?_ ?_ _ | omega | (simp; done) | (simp; omega))) ⟨W1.heap.size, 0, none⟩ 1 1 [.int .i64 (k : Int)] rfl rfl (by intro j u hj; exact Kit.news_one _ _ 3 j u hj) (Kit.ones_one rfl) (by unfold maxLen; omega) (by omega) (by first | omega | (simp; omega)) ?_; intro v2 w3 ho3 hg3 hk3; rw [← HU.out] at hg3 hk3; obtain ⟨c0, c3, y3, hN⟩ := HI2.out.step (u := v2) HN.out hk1 HX.out HR.out.symm HCV.out HW1.out (by repeat' first | with_reducible exact Below.refl _ _ | with_reducible assumption | with_reducible refine belows_drewN ?_ _ | with_reducible refine Below.drew ?_ | with_reducible refine Below.setCell ?_ ?_ _ | with_reducible refine Below.alloc ?_ ?_ _ | omega | (simp; done) | (simp; omega)) hg3 hk3 ho3 hbase; rw [HU.out] at c3; rw [HCV.out, HN.out] at c0; have HNx := hid hN; obtain ⟨b2, q2, rfl⟩ := own_form ho3; clear ho3 hg3 hk3 hN)
          all_goals
            go_wp2
            go_roundw
            case rel => exact ⟨k + 1, _, by go_num, by omega, HNx⟩
            case measure => simp [intOf]; omega
    · obtain rfl : k = L.length := by omega
      go_wp2
      go_ret
      refine ⟨HI.out.bel, HI.out.sz, .inr ⟨rfl, fun j y h1 hy => HI.out.ok j y h1 (List.getElem?_eq_some_iff.1 hy).1 hy, sv, HI.out.hm⟩⟩
end Go.Proofs.YtlbkhmfgbonelaaDoor
namespace Go.Proofs.YtlbkhmfgbonelaaDoor
open Go Go.RowKit
open Kit (natVals)

/-- The document's hierarchy as it lies: names, supers. -/
structure RM (w : World) (base rb : Nat) (N : List ByteArray) (S : List Int) : Prop where
  ex : ∃ nv sv, w.heap[rb]? = some (.cells #[nv, sv] 81 (0, 0)) ∧ w.ownsRow base 9 1 nv N.length (N.map Value.string) ∧ w.ownsRow base 3 1 sv S.length (S.map (Value.int .i64))
  lb : base ≤ rb
theorem RM.lt {w : World} {base rb : Nat} {N : List ByteArray} {S : List Int} (h : RM w base rb N S) : rb < w.heap.size := by
  obtain ⟨nv, sv, h1, -⟩ := h.ex
  exact (Array.getElem?_eq_some_iff.1 h1).1
theorem RM.below {w w' : World} {base rb : Nat} {N : List ByteArray} {S : List Int} (h : RM w base rb N S) (hb : Below w.heap.size w w') : RM w' base rb N S := by
  have hlt := h.lt
  obtain ⟨nv, sv, h1, h2, h3⟩ := h.ex
  exact ⟨⟨nv, sv, (hb.block _ hlt).trans h1, Kit.owns_below h2 hb (Nat.le_refl _), Kit.owns_below h3 hb (Nat.le_refl _)⟩, h.lb⟩
/-- Its cells, in sight. -/
theorem RM.sight {w : World} {base rb : Nat} {N : List ByteArray} {S : List Int} (h : RM w base rb N S) (hN : N.length ≤ 1000) (hS : 0 < S.length) : ∃ na np sg sp, w.cell? ⟨rb, 0, none⟩ = some (.slice na N.length np) ∧ w.cell? ⟨rb, 1, none⟩ = some (.slice (some ⟨sg, 0, none⟩) S.length sp) ∧
    Kit.IsS 1 w (.slice na N.length np) N.length (N.map Value.string) ∧ sg < w.heap.size ∧ ∀ (k : Nat) (x : Int), S[k]? = some x → w.cell? ⟨sg, k, none⟩ = some (.int .i64 x) := by
  obtain ⟨nv, sv, h1, h2, h3⟩ := h.ex
  have hI := Kit.isS_of_owns h2 (by omega)
  obtain ⟨na, np, rfl⟩ := hI.len
  rcases h3.2 with ⟨-, e⟩ | ⟨g, cap, cur, rfl, hg, hh, c1, c2, c3, ht⟩
  · omega
  · refine ⟨na, np, g, cap, by simp [World.cell?, h1], by simp [World.cell?, h1], hI, (Array.getElem?_eq_some_iff.1 hh).1, fun k x hk => ?_⟩
    have hkl := (List.getElem?_eq_some_iff.1 hk).1
    have : cur[k]? = some (.int .i64 x) := by
      have e : (S.map (Value.int .i64))[k]? = some (.int .i64 x) := by simp [hk]
      rw [← ht, List.getElem?_take_of_lt (by omega)] at e
      simpa using e
    simp [World.cell?, hh, this]
theorem str_ne {a b : ByteArray} (h : ¬ a = b) : (a.toList == b.toList) = false := by
  rw [beq_eq_false_iff_ne, ne_eq, ByteArray.toList_eq, ByteArray.toList_eq]
  exact fun e => h (ba_eq e)
def idxI (s : ByteArray) (N : List ByteArray) : Int := match Hi.idx s N with | some k => (k : Int) | none => -1
theorem strs_at {w : World} {v : Value} {N : List ByteArray} (h : Kit.IsS 1 w v N.length (N.map Value.string)) {k : Nat} {s : ByteArray} (hk : N[k]? = some s) : ∃ b o cap, v = .slice (some ⟨b, o, none⟩) N.length cap ∧ b < w.heap.size ∧ w.cell? ⟨b, o + k, none⟩ = some (.string s) := by
  obtain ⟨b, o, cap, h1, -, h3, h4⟩ := h.some (by have := (List.getElem?_eq_some_iff.1 hk).1; omega)
  exact ⟨b, o, cap, h1, h3, h4 k _ (by simp [hk])⟩
theorem idx_here {s : ByteArray} {N : List ByteArray} {k : Nat} (h : N[k]? = some s) (hn : ∀ j, j < k → N[j]? ≠ some s) : idxI s N = (k : Int) := by
  unfold idxI
  cases hx : Hi.idx s N with
  | none => exact absurd (List.mem_of_getElem? h) (Hi.idx_none.1 hx)
  | some j =>
    have hj := Hi.idx_some hx
    have h1 : ¬ j < k := fun e => hn j e hj
    by_cases e : k < j
    · exfalso
      have : ∀ (N : List ByteArray) (j k : Nat), Hi.idx s N = some j → N[k]? = some s → ¬ k < j := by
        intro N
        induction N with
        | nil => intro j k h; simp [Hi.idx] at h
        | cons x xs ih =>
          intro j k h hk hlt
          have e1 : Hi.idx s (x :: xs) = if x = s then some 0 else (Hi.idx s xs).map (· + 1) := rfl
          rw [e1] at h
          by_cases ex : x = s
          · rw [if_pos ex] at h; cases h; omega
          · rw [if_neg ex] at h
            cases hx2 : Hi.idx s xs with
            | none => rw [hx2] at h; simp at h
            | some i =>
              rw [hx2] at h
              simp only [Option.map_some, Option.some.injEq] at h
              subst h
              cases k with
              | zero => simp at hk; exact ex hk
              | succ k => exact ih i k hx2 (by simpa using hk) (by omega)
      exact this N j k hx h e
    · have : j = k := by omega
      simp [this]
theorem idx_not {s : ByteArray} {N : List ByteArray} (hn : ∀ j, j < N.length → N[j]? ≠ some s) : idxI s N = -1 := by
  unfold idxI
  cases hx : Hi.idx s N with
  | none => rfl
  | some j => exact absurd (Hi.idx_some hx) (hn j (Hi.idx_lt hx))
set_option maxRecDepth 100000 in
theorem find_any {w : World} {v : Value} {N : List ByteArray} (hv : Kit.IsS 1 w v N.length (N.map Value.string)) (s : ByteArray) :
    Calls Tryd.prog 48 #[v, .string s] w fun e w' => e = .returned (.int .i64 (idxI s N)) ∧ w = w' := by
  have hlen := hv.2.1
  have HV := hid hv
  obtain ⟨a, cap, rfl⟩ := hv.len
  clear hv
  go_enter Tryd.func48, Tryd.ntmps48
  go_wp2
  go_loop [5] (fun i => ∃ k : Nat, i = .int .i64 (k : Int) ∧ k ≤ N.length ∧ Hid (∀ j, j < k → N[j]? ≠ some s)) (fun i => N.length - (intOf i).toNat)
  case atStart => exact ⟨0, rfl, by omega, fun j h => by omega⟩
  case round =>
    obtain ⟨k, rfl, hk, HN⟩ := hrel
    by_cases hlt : k < N.length
    · obtain ⟨x, hx⟩ : ∃ x, N[k]? = some x := ⟨_, List.getElem?_eq_getElem hlt⟩
      obtain ⟨b, o, c, hsl, hbl, y0⟩ := strs_at HV.out hx
      obtain ⟨rfl, -, rfl⟩ := Value.slice.inj hsl
      have HX := hid hx
      clear hsl hx
      by_cases e : x = s
      · subst e
        have hres := hid (idx_here HX.out HN.out)
        go_wp2
        go_ret
        exact ⟨by rw [hres.out]; rfl, rfl⟩
      · have e2 := str_ne e
        go_wp2
        go_round
        case rel => exact ⟨k + 1, by go_num, by omega, fun j hj => by
          by_cases ej : j = k
          · subst ej; rw [HX.out]; simpa using e
          · exact HN.out j (by omega)⟩
        case measure => simp [intOf]; omega
    · obtain rfl : k = N.length := by omega
      have hres := hid (idx_not HN.out)
      go_wp2
      go_ret
      exact ⟨by rw [hres.out]; rfl, rfl⟩
end Go.Proofs.YtlbkhmfgbonelaaDoor
namespace Go.Proofs.YtlbkhmfgbonelaaDoor
open Go Go.RowKit
open Kit (natVals)

/-- A hierarchy that the document makes. -/
structure ROk (n : Nat) (P D : Nat → Nat) (N : List ByteArray) (S : List Int) : Prop where
  tr : Hi.Tr n P D
  le : n ≤ 72
  nl : N.length = n
  sl : S.length = n
  su : ∀ k, k < n → S[k]? = some (if k = 0 then -1 else (P k : Int))
section
variable {w : World} {base rb n : Nat} {P D : Nat → Nat} {N : List ByteArray} {S : List Int}
set_option maxRecDepth 100000
end
end Go.Proofs.YtlbkhmfgbonelaaDoor
