/- Own texts for the claim, part 2. -/
import Derived.Test.YtahjnaoabfkpcaaDoorZN1
import Derived.Shelf.SlSortCmp.Whole1
import Derived.Lib.QuietBelow
import Derived.Deep.RegionHeld3
import Derived.Deep.Upon
namespace Go.Proofs.YtahjnaoabfkpcaaDoor
open Go Go.RowKit
open Kit (natVals)

theorem HM.drewN {w : World} {base : Nat} {H : HV} (h : HM w base H) (m : Nat) : HM (w.drewN m) base H := h.below (below_drewN w m)
theorem dn2 (w : World) (m n : Nat) : (w.drewN m).drewN n = w.drewN (m + n) := by simp [World.drewN, Nat.add_assoc]
theorem com_step {P D : Nat → Nat} {n i j : Nat} (t : Hi.Tr n P D) (hi : i < n) (hd : D i = D j) (hne : i ≠ j) (hj : j < n) : 1 ≤ i ∧ 1 ≤ j ∧ Hi.com P (D i) i j = Hi.com P (D (P i)) (P i) (P j) ∧ D (P i) = D (P j) ∧ D i = D (P i) + 1 := by
  have hi1 : 1 ≤ i := by
    rcases Nat.eq_zero_or_pos i with rfl | h1
    · have := t.zero
      have := t.root hj (by omega)
      omega
    · exact h1
  have hj1 : 1 ≤ j := by
    rcases Nat.eq_zero_or_pos j with rfl | h1
    · have := t.zero
      have := t.root hi (by omega)
      omega
    · exact h1
  have e1 := t.dep i hi1 hi
  have e2 := t.dep j hj1 hj
  refine ⟨hi1, hj1, ?_, by omega, e1⟩
  rw [e1]
  show (if i = j then i else Hi.com P (D (P i)) (P i) (P j)) = _
  rw [if_neg hne]
section
variable {w : World} {base : Nat} {H : HV} {P D : Nat → Nat}
def HV.commonO (H : HV) (P D : Nat → Nat) (a b : Int) : Int := if (isC H.n a && isC H.n b) = true then ((Hi.cm P D a.toNat b.toNat : Nat) : Int) else -1
set_option maxRecDepth 100000 in
set_option maxHeartbeats 1000000 in
theorem Common_any (h : HM w base H) (ok : HOk H P D) (a b : Int) : Calls Tryd.prog 66 #[.pointer (some ⟨H.hb, 0, none⟩), .int .i64 a, .int .i64 b] w fun e w' => e = .returned (.int .i64 (H.commonO P D a b)) ∧ ∃ m, w' = w.drewN m := by
  have HA := has_any h a
  have HB := has_any h b
  obtain ⟨k0, -, -⟩ := h.cells
  unfold HV.commonO
  change Calls _ _ _ _ fun e w' => e = .returned (.bool (isC H.n a)) ∧ w = w' at HA
  change Calls _ _ _ _ fun e w' => e = .returned (.bool (isC H.n b)) ∧ w = w' at HB
  obtain ⟨g, p, hc, -, hs⟩ := h.sight ok.tr.pos
  rw [hc] at k0
  cases hi : isC H.n a with
  | false =>
    rw [hi] at HA
    clear h k0 hi HB hs hc ok
    go_enter Tryd.func66, Tryd.ntmps66
    go_wp2_with (go_at_call 76; refine HA.mono ?_; rintro e w' ⟨rfl, rfl⟩)
    go_ret
    exact ⟨by simp, 0, rfl⟩
  | true =>
    rw [hi] at HA
    obtain ⟨i, rfl, hin⟩ := isC_yes hi
    cases hj : isC H.n b with
    | false =>
      rw [hj] at HB
      clear h k0 hi hj hs hc ok
      go_enter Tryd.func66, Tryd.ntmps66
      go_wp2_with (first | (go_at_call 76; (with_reducible refine HA.mono ?_); rintro e w' ⟨rfl, rfl⟩) | (go_at_call 76; (with_reducible refine HB.mono ?_); rintro e w' ⟨rfl, rfl⟩))
      go_ret
      exact ⟨by simp, 0, rfl⟩
    | true =>
      rw [hj] at HB
      obtain ⟨j, rfl, hjn⟩ := isC_yes hj
      obtain ⟨-, -, ci, -⟩ := hs i hin
      obtain ⟨-, -, cj, -⟩ := hs j hjn
      rw [ok.dp i hin] at ci
      rw [ok.dp j hjn] at cj
      have HA1 := hid (fun m => above_any (h.drewN m) ok i (min (D i) (D j)) hin)
      have HA2 := hid (fun m => above_any (h.drewN m) ok j (min (D i) (D j)) hjn)
      rw [Bool.true_and, if_pos rfl, Int.toNat_natCast, Int.toNat_natCast]
      unfold Hi.cm
      have e1 : D i - min (D i) (D j) = D i - D j := by omega
      have e2 : D j - min (D i) (D j) = D j - D i := by omega
      rw [e1] at HA1
      rw [e2] at HA2
      obtain ⟨u1, u2⟩ := ok.tr.upn_dep (D i - D j) i hin (by omega)
      obtain ⟨v1, v2⟩ := ok.tr.upn_dep (D j - D i) j hjn (by omega)
      have e3 : min (D i) (D j) = D (Hi.upn P (D i - D j) i) := by omega
      have e4 : D (Hi.upn P (D i - D j) i) = D (Hi.upn P (D j - D i) j) := by omega
      have hmin : (if D j < D i then (D j : Int) else (D i : Int)) = ((min (D i) (D j) : Nat) : Int) := by split <;> omega
      obtain ⟨mn, hmn⟩ : ∃ mn, mn = min (D i) (D j) := ⟨_, rfl⟩
      have hmin2 : min (D i : Int) (D j : Int) = ((min (D i) (D j) : Nat) : Int) := by omega
      have hmin3 : min (D j : Int) (D i : Int) = ((min (D i) (D j) : Nat) : Int) := by omega
      rw [← hmn] at HA1 HA2 e3 hmin hmin2 hmin3 ⊢
      rw [e3]
      obtain ⟨x, hx⟩ : ∃ x, Hi.upn P (D i - D j) i = x := ⟨_, rfl⟩
      obtain ⟨y, hy⟩ : ∃ y, Hi.upn P (D j - D i) j = y := ⟨_, rfl⟩
      rw [hx] at HA1 u1 e4 ⊢
      rw [hy] at HA2 v1 e4 ⊢
      obtain ⟨di, hdi⟩ : ∃ x, D i = x := ⟨_, rfl⟩
      obtain ⟨dj, hdj⟩ : ∃ x, D j = x := ⟨_, rfl⟩
      rw [hdi] at ci hmin hmin2 hmin3
      rw [hdj] at cj hmin hmin2 hmin3
      have HS := hid hs
      have OK := hid ok
      have HX := hid u1
      have HY := hid v1
      have HE := hid e4
      clear h hi hj hs hc ok hx hy e1 e2 e3 e4 u1 u2 v1 v2 hdi hdj hmn
      go_enter Tryd.func66, Tryd.ntmps66
      go_wp2_with (first | (go_at_call 76; (with_reducible refine HA.mono ?_); rintro e w' ⟨rfl, rfl⟩) | (go_at_call 76; (with_reducible refine HB.mono ?_); rintro e w' ⟨rfl, rfl⟩))
      go_quiet (fail)
      go_wp2_with (first | (go_at_call 77; (with_reducible refine (HA1.out _).mono ?_); rintro e w' ⟨rfl, rfl⟩) | (go_at_call 77; (with_reducible refine (HA2.out _).mono ?_); rintro e w' ⟨rfl, rfl⟩))
      clear hmin hmin2 hmin3 ci cj HA HB HA1 HA2
      go_loopw [1, 2] (fun p q wr => ∃ i j m : Nat, p = .int .i64 (i : Int) ∧ q = .int .i64 (j : Int) ∧ wr = w.drewN m ∧ Hid (i < H.n) ∧ Hid (j < H.n) ∧ Hid (D i = D j) ∧ Hid (Hi.com P (D i) i j = Hi.com P (D x) x y)) (fun p _ _ => D (intOf p).toNat)
      case atStart => exact ⟨x, y, _, rfl, rfl, rfl, HX, HY, HE, rfl⟩
      case round =>
        obtain ⟨i1, j1, m1, rfl, rfl, rfl, hi1, hj1, hd1, he1⟩ := hrel
        clear hin hjn
        have hin := hi1.out
        have hjn := hj1.out
        by_cases hne : i1 = j1
        · subst hne
          have hres : Hi.com P (D x) x y = i1 := by rw [← he1.out, Hi.com_self]
          have HR := hid hres
          clear hres
          go_wp2
          go_ret
          exact ⟨by rw [HR.out]; rfl, _, rfl⟩
        · obtain ⟨a1, a2, a3, a4, a5⟩ := com_step OK.out.tr hi1.out hd1.out hne hj1.out
          obtain ⟨-, c1, -, -⟩ := HS.out i1 hin
          obtain ⟨-, c2, -, -⟩ := HS.out j1 hjn
          rw [OK.out.su i1 hin, if_neg (by omega)] at c1
          rw [OK.out.su j1 hjn, if_neg (by omega)] at c2
          have q1 := hid (OK.out.tr.up i1 a1 hin)
          have q2 := hid (OK.out.tr.up j1 a2 hjn)
          have q3 := hid a4
          have q4 := hid (a3.symm.trans he1.out)
          have q5 := hid a5
          clear a1 a2 a3 a4 a5
          obtain ⟨pi, hpi⟩ : ∃ x, P i1 = x := ⟨_, rfl⟩
          obtain ⟨pj, hpj⟩ : ∃ x, P j1 = x := ⟨_, rfl⟩
          rw [hpi] at c1 q1 q3 q4 q5
          rw [hpj] at c2 q2 q3 q4
          clear hpi hpj
          go_wp2
          go_quiet (fail)
          go_roundw
          case rel => exact ⟨_, _, _, _, _, _, _, _, _, _, _, _, _, _, _, _, _, _, _, _, _, ⟨pi, pj, _, rfl, rfl, dn2 _ _ _, q1, q2, q3, q4⟩, rfl⟩
          case measure => have := q5.out; simp [intOf]; omega
end
end Go.Proofs.YtahjnaoabfkpcaaDoor
namespace Go.Proofs.YtahjnaoabfkpcaaDoor
open Go Go.RowKit
open Kit (natVals)

def lnL (x : Hi.Ln) : List Value := [.string x.1, .string x.2]
theorem lnL_len (x : Hi.Ln) : (lnL x).length = 2 := rfl
/-- Lines in a row of the call's own. -/
def Lns (w : World) (base : Nat) (v : Value) (L : List Hi.Ln) : Prop := w.ownsRow base 59 2 v L.length (L.flatMap lnL)
theorem Lns.at {w : World} {base : Nat} {v : Value} {L : List Hi.Ln} (h : Lns w base v L) {k : Nat} {x : Hi.Ln} (hx : L[k]? = some x) : ∃ b p, v = .slice (some ⟨b, 0, none⟩) L.length p ∧ b < w.heap.size ∧ w.cell? ⟨b, k * 2, none⟩ = some (.string x.1) ∧ w.cell? ⟨b, k * 2 + 1, none⟩ = some (.string x.2) := by
  have hk := (List.getElem?_eq_some_iff.1 hx).1
  rcases h.2 with ⟨-, h2⟩ | ⟨g, cap, cur, h1, hg, hh, hc1, hc2, hc3, ht⟩
  · omega
  · refine ⟨g, cap, h1, (Array.getElem?_eq_some_iff.1 hh).1, ?_⟩
    have hl := h.1
    have hat : ∀ j, j < 2 → w.cell? ⟨g, k * 2 + j, none⟩ = (lnL x)[j]? := fun j hj => by
      have hx2 := Kit.flat_at lnL_len hx j hj
      have : cur[k * 2 + j]? = (lnL x)[j]? := by
        rw [← ht, List.getElem?_take_of_lt (by omega)] at hx2
        simpa using hx2
      simp [World.cell?, hh, this]
    exact ⟨hat 0 (by omega), hat 1 (by omega)⟩
theorem Lns.below {w w' : World} {base : Nat} {v : Value} {L : List Hi.Ln} (h : Lns w base v L) (hb : Below w.heap.size w w') : Lns w' base v L := Kit.owns_below h hb (Nat.le_refl _)
theorem infoC : (Tryd.prog.info? 94).map (fun i => (i.zero, i.size, i.bytes)) = some (some (.agg #[.string ⟨#[]⟩, .int .i64 0, .int .i64 0, .slice none 0 0]), 4, 56) := by kernel_rfl
/-- What nameAll begins with. -/
structure Bare (H : HV) (L : List Hi.Ln) : Prop where
  n : H.n = 0
  nm : H.nm = Hi.nmf L
  su : ∀ k, H.su k = -1
  dp : ∀ k, H.dp k = 0
  sv : ∀ k, H.sv k = .slice none 0 0
  sb : ∀ k, H.sb k = []
  od : H.od = []
/-- Where it stands. -/
structure NaI (w : World) (base : Nat) (H : HV) (lv : Value) (L : List Hi.Ln) (k : Nat) (cv : Value) (W : World) : Prop where
  hm : HM W base { H with cv := cv, n := k }
  ln : Lns W base lv L
  bel : Below base w W
  sz : w.heap.size ≤ W.heap.size
  nd : (Hi.nms (L.take k)).Nodup
theorem NaI.below {w W W' : World} {base : Nat} {H : HV} {lv cv : Value} {L : List Hi.Ln} {k : Nat} (h : NaI w base H lv L k cv W) (hb : Below W.heap.size W W') (hw : base ≤ w.heap.size) : NaI w base H lv L k cv W' :=
  ⟨h.hm.below hb, h.ln.below hb, belows h.bel hb (Nat.le_trans hw h.sz), Nat.le_trans h.sz hb.size, h.nd⟩
def NaPost (base : Nat) (H : HV) (lv : Value) (L : List Hi.Ln) (w : World) (e : Ending) (w' : World) : Prop :=
  Below base w w' ∧ w.heap.size ≤ w'.heap.size ∧ ((e = .returned (.bool false) ∧ ¬ (Hi.nms L).Nodup) ∨ (e = .returned (.bool true) ∧ (Hi.nms L).Nodup ∧ ∃ cv, HM w' base { H with cv := cv, n := L.length } ∧ Lns w' base lv L))
theorem take_snoc {L : List Hi.Ln} {k : Nat} {x : Hi.Ln} (hx : L[k]? = some x) : Hi.nms (L.take (k + 1)) = Hi.nms (L.take k) ++ [x.1] := by
  unfold Hi.nms
  rw [List.take_add_one, hx, List.map_append]
  rfl
theorem nodup_take {L : List Hi.Ln} (k : Nat) (h : (Hi.nms L).Nodup) : (Hi.nms (L.take k)).Nodup := by
  unfold Hi.nms at *
  rw [List.map_take]
  exact h.sublist (List.take_sublist _ _)
theorem NaI.step {w W1 w2 w2' w3 : World} {base : Nat} {H : HV} {lv cv v2 : Value} {L : List Hi.Ln} {k : Nat} {x : Hi.Ln} (h : NaI w base H lv L k cv W1) (hB : Bare H L) (hx : L[k]? = some x) (hr : none = Hi.idx x.1 ({ H with cv := cv, n := k } : HV).names)
    (hcg : Chg (fun i => i = H.mb) W1 w2) (hm : NmM w2 H.mb (({ H with cv := cv, n := k } : HV).names ++ [x.1])) (hb : Below w2.heap.size w2 w2') (hg : w2'.grownBy w3 cv.ownBlock)
    (ho : w3.ownsRow base 94 4 v2 (k + 1) (({ H with cv := cv, n := k } : HV).rows ++ [.string x.1, .int .i64 (-1), .int .i64 0, .slice none 0 0])) (hw : base ≤ w.heap.size) :
    w3.cell? ⟨H.hb, 0, none⟩ = some cv ∧ w3.frozen? ⟨H.hb, 0, none⟩ = false ∧ NaI w base H lv L (k + 1) v2 (w3.setCell ⟨H.hb, 0, none⟩ v2) := by
  have hmm := h.hm
  have hk := (List.getElem?_eq_some_iff.1 hx).1
  have hc23 := (Chg.of_below (S := fun i => cv.ownBlock = some i) hb).grown hg (fun j e => .inl e)
  have hc3 := ((hcg.mono (T := fun i => i = H.mb ∨ cv.ownBlock = some i) (fun i _ e => .inl e)).below hb).grown hg (fun j e => .inl (.inr e))
  have hbx : BX w3 H.hb #[cv, .map (some H.mb), H.ov] 77 := BX.chg (w := W1) hmm.box hc3 (by rintro (e | e); exact hmm.ne e; exact own_unlike_box hmm.cls hmm.box (by decide) e)
  have hm3 := hm.keep (hc23.block _ hm.lt (fun e => own_map hmm.cls hmm.map e))
  have hnx : H.nm k = x.1 := by rw [hB.nm]; unfold Hi.nmf; rw [hx]
  have hrow : ({ H with cv := cv, n := k } : HV).row k = [.string x.1, .int .i64 (-1), .int .i64 0, .slice none 0 0] := by
    unfold HV.row
    dsimp only
    rw [hnx, hB.su, hB.dp, hB.sv]
    rfl
  have hA := hmm.setCv hc3 (u := v2) (by rw [← hrow] at ho; exact ho) (by rw [← hnx] at hm3; exact hm3) (hB.sv k) (hB.sb k)
  have hS : Chg (fun i => i = H.mb ∨ cv.ownBlock = some i ∨ i = H.hb) W1 (w3.setCell ⟨H.hb, 0, none⟩ v2) := (hc3.mono (T := fun i => i = H.mb ∨ cv.ownBlock = some i ∨ i = H.hb) (fun i _ e => by rcases e with e | e; exact .inl e; exact .inr (.inl e))).set (.inl (.inr (.inr rfl))) _
  have hlow := hmm.low
  have hbW := Nat.le_trans hw h.sz
  refine ⟨hbx.cell 0, hbx.frozen 0, hA, owns_chg h.ln hS (fun j e => ?_), h.bel.trans (hS.to_below (fun j e => ?_) hbW), Nat.le_trans h.sz hS.size, ?_⟩
  · rintro (rfl | e2 | rfl)
    · exact own_map h.ln hmm.map e
    · exact own_unlike h.ln hmm.cls (by decide) j e e2
    · exact own_unlike_box h.ln hmm.box (by decide) e
  · rcases e with rfl | e2 | rfl
    · exact hmm.lm
    · exact Kit.own_base hmm.cls j e2
    · exact hmm.lh
  · rw [take_snoc hx, Hi.nodup_snoc]
    refine ⟨h.nd, ?_⟩
    rw [← Hi.idx_none, Hi.nmf_take L (by omega), ← hB.nm]
    exact hr.symm
set_option maxRecDepth 100000 in
set_option maxHeartbeats 1000000 in
theorem nameAll_any {w : World} {base : Nat} {H : HV} {lv : Value} {L : List Hi.Ln} (h : HM w base H) (hl : Lns w base lv L) (hB : Bare H L) (hn : L.length ≤ 72) (hs : ∀ x ∈ L, x.1.size ≤ maxLen) :
    Calls Tryd.prog 45 #[.pointer (some ⟨H.hb, 0, none⟩), lv] w (NaPost base H lv L w) := by
  obtain ⟨i0, hi, hz0, hz1, hz2⟩ := info_parts infoC
  have hbase := Nat.le_of_lt h.base_lt
  obtain ⟨a, p, rfl⟩ := own_form hl
  have H0 : NaI w base H (.slice a L.length p) L 0 H.cv w := ⟨by have e : ({ H with cv := H.cv, n := 0 } : HV) = H := (by rw [← hB.n]); rw [e]; exact h, hl, Below.refl _ _, Nat.le_refl _, by simp [Hi.nms]⟩
  have HI := hid H0
  have HS := hid hs
  have HBr := hid hB
  clear H0 hs h hl hB
  go_enter Tryd.func45, Tryd.ntmps45
  go_wp2
  go_loopw [11] (fun i wr => ∃ (k : Nat) (cv : Value), i = .int .i64 (k : Int) ∧ k ≤ L.length ∧ Hid (NaI w base H (.slice a L.length p) L k cv wr)) (fun i _ => L.length - (intOf i).toNat)
  case atStart => exact ⟨0, H.cv, rfl, by omega, HI⟩
  case round =>
    clear HI
    obtain ⟨k, cv, rfl, hk, HI⟩ := hrel
    by_cases hlt : k < L.length
    · obtain ⟨x, hx⟩ : ∃ x, L[k]? = some x := ⟨_, List.getElem?_eq_getElem hlt⟩
      obtain ⟨b, p', hv, hbl, y0, y1⟩ := HI.out.ln.at hx
      obtain ⟨rfl, -, rfl⟩ := Value.slice.inj hv
      have HX := hid hx
      have hxs := HS.out x (List.mem_of_getElem? hx)
      have hI1 := HI.out.below (W' := wr.alloc (.cells #[.string x.1, .string x.2] 59)) ((Below.refl _ _).alloc (Nat.le_refl _) _) hbase
      obtain ⟨k0, k1, k2⟩ := HI.out.hm.cells
      dsimp only at k0 k1 k2
      have hlk := fun m => (hI1.hm.drewN m).map.look x.1 hxs
      have hbw := HI.out.hm.hb_lt
      dsimp only at hbw hlk
      have HI1 := hid hI1
      have hne : (wr.alloc (.cells #[.string x.1, .string x.2] 59)).heap.size = wr.heap.size + 1 := by simp
      obtain ⟨r, hr⟩ : ∃ r, r = Hi.idx x.1 ({ H with cv := cv, n := k } : HV).names := ⟨_, rfl⟩
      rw [← hr] at hlk
      have HR := hid hr
      clear hv hx hI1 hr
      cases r with
      | none =>
        simp only [Option.isSome_none, Option.getD_none] at hlk
        go_wp2
        go_quiet (fail)
        obtain ⟨W1, hW1⟩ : ∃ W1, W1 = (wr.alloc (.cells #[.string x.1, .string x.2] 59)).drewN nq := ⟨_, rfl⟩
        have hI2 := HI1.out.below (W' := W1) (by rw [hW1]; exact below_drewN _ _) hbase
        have bx : BX W1 wr.heap.size #[.string x.1, .string x.2] 59 := by rw [hW1]; exact BX.new wr _ _
        have hkl : (({ H with cv := cv, n := k } : HV).names).length = k := by simp [HV.names]
        obtain ⟨w2, hup, k3, hg⟩ := (show HM W1.drew base { H with cv := cv, n := k } from hI2.hm.drewN 1).map.put x.1 hxs (by rw [hkl]; omega) HR.out.symm
        rw [hkl] at hup
        rw [← hW1]
        have hmm := hI2.hm
        obtain ⟨k0, k1, k2⟩ := hmm.cells
        obtain ⟨ca, cp, hcv⟩ := own_form hmm.cls
        dsimp only at k0 k1 k2 hup k3 hg hcv
        have x0 := bx.cell 0
        have hcg := (Chg.of_below (S := fun i => i = H.mb) ((below_drewN W1 1) : Below W1.heap.size W1 W1.drew)).grown hg (fun k e => .inl (by cases e; rfl))
        have bx2 := bx.chg hcg (fun e => by have h1 := HI.out.hm.mb_lt; dsimp only at h1; omega)
        have bh2 : BX w2 H.hb #[cv, .map (some H.mb), H.ov] 77 := BX.chg (w := W1) hmm.box hcg hmm.ne
        have HMM := hid hmm
        have HCG := hid hcg
        have HK3 := hid k3
        have HOc := hid (fun X (b : Below w2.heap.size w2 X) => Kit.owns_below (owns_chg hmm.cls hcg (fun j e e2 => own_map hmm.cls hmm.map (e2 ▸ e))) b (Nat.le_refl _))
        subst hcv
        have hw12 := hcg.size
        have HI2 := hid hI2
        have hsz1 := hI2.sz
        clear hW1 hI2 bx hg k3 hcg hmm k2
        go_wp2
        go_region
        obtain ⟨z0, z1, z2⟩ : w2.cell? ⟨H.hb, 0, none⟩ = some (.slice ca k cp) ∧ w2.frozen? ⟨H.hb, 0, none⟩ = false ∧ w2.cell? ⟨wr.heap.size, 0, none⟩ = some (.string x.1) := ⟨bh2.cell 0, bh2.frozen 0, bx2.cell 0⟩
        have hbs := bh2.sz
        have hbs2 := bx2.sz
        clear k0 k1 x0 bh2 bx2 hup
        go_wp2
        go_region_law (refine Kit.step_append_own rfl (.tmp 38) (.tmp 42) 73 rfl base 94 i0 _ 4 56 Tryd.underlying73 hi hz0 hz1 hz2 rfl (by decide) (.slice ca k cp) k _ rfl (HOc.out _ (by repeat' first | with_reducible exact Below.refl _ _ | with_reducible assumption | with_reducible refine belows_drewN ?_ _ | with_reducible refine Below.drew ?_ | with_reducible refine Below.setCell ?_ ?_ _ | with_reducible refine Below.alloc ?_ ?_ _ | omega | (simp; done) | (simp; omega))) ⟨w2.heap.size, 0, none⟩ 1 1 [.string x.1, .int .i64 (-1), .int .i64 0, .slice none 0 0] rfl rfl (news_of _ _ _) (by intro u hu; simp at hu; rcases hu with rfl | rfl | rfl | rfl <;> rfl) (by unfold maxLen; omega) (by omega) (by first | omega | (simp; omega)) ?_; intro v2 w3 ho3 hg3 hk3; obtain ⟨c3, y3, hN⟩ := HI2.out.step HBr.out HX.out HR.out HCG.out HK3.out (by repeat' first | with_reducible exact Below.refl _ _ | with_reducible assumption | with_reducible refine belows_drewN ?_ _ | with_reducible refine Below.drew ?_ | with_reducible refine Below.setCell ?_ ?_ _ | with_reducible refine Below.alloc ?_ ?_ _ | omega | (simp; done) | (simp; omega)) hg3 ho3 hbase; have HN := hid hN; obtain ⟨b2, q2, rfl⟩ := own_form ho3; clear ho3 hg3 hk3 hN)
        all_goals
          go_wp2
          go_roundw
          case rel => exact ⟨k + 1, _, by go_num, by omega, HN⟩
          case measure => simp [intOf]; omega
      | some j =>
        simp only [Option.isSome_some, Option.getD_some] at hlk
        go_wp2
        go_quiet (fail)
        go_wp2
        go_ret
        refine ⟨belows HI1.out.bel (below_drewN _ _) (Nat.le_trans hbase HI1.out.sz), Nat.le_trans HI1.out.sz (Nat.le_refl _), .inl ⟨rfl, fun hnd => ?_⟩⟩
        have h1 := nodup_take (k + 1) hnd
        rw [take_snoc HX.out, Hi.nodup_snoc, ← Hi.idx_none, Hi.nmf_take L hk, ← HBr.out.nm] at h1
        have h2 := HR.out
        rw [show ({ H with cv := cv, n := k } : HV).names = (List.range k).map H.nm from rfl, h1.2] at h2
        cases h2
    · obtain rfl : k = L.length := by omega
      go_wp2
      go_ret
      refine ⟨HI.out.bel, HI.out.sz, .inr ⟨rfl, by have := HI.out.nd; rwa [List.take_length] at this, cv, HI.out.hm, HI.out.ln⟩⟩
end Go.Proofs.YtahjnaoabfkpcaaDoor
namespace Go.Proofs.YtahjnaoabfkpcaaDoor
open Go Go.RowKit
open Kit (natVals)

theorem own_frz {w : World} {base : Nat} {e : TypeId} {size : Nat} {v : Value} {n : Nat} {xs : List Value} (h : w.ownsRow base e size v n xs) {g : Nat} (hg : v.ownBlock = some g) : ∀ i, w.frozen? ⟨g, i, none⟩ = false := by
  rcases h.2 with ⟨rfl, -⟩ | ⟨g', cap, cur, rfl, hb, hh, -⟩
  · simp [Value.ownBlock] at hg
  · simp only [Value.ownBlock, Option.some.injEq] at hg
    subst hg
    intro i
    simp [World.frozen?, hh]
def suK (L : List Hi.Ln) (k : Nat) : Nat → Int := fun j => if 1 ≤ j ∧ j < k then (Hi.sup L j : Int) else -1
def hung (H : HV) (L : List Hi.Ln) (k : Nat) (sv : Nat → Value) : HV := { H with su := suK L k, sv := sv, sb := Hi.ch k (Hi.sup L) }
/-- Where hangAll stands. -/
structure HaI (w : World) (base : Nat) (H : HV) (lv : Value) (L : List Hi.Ln) (k : Nat) (sv : Nat → Value) (W : World) : Prop where
  hm : HM W base (hung H L k sv)
  ln : Lns W base lv L
  bel : Below base w W
  sz : w.heap.size ≤ W.heap.size
  ok : ∀ j x, 1 ≤ j → j < k → L[j]? = some x → Hi.idx x.2 (Hi.nms L) ≠ none
theorem HaI.below {w W W' : World} {base : Nat} {H : HV} {lv : Value} {sv : Nat → Value} {L : List Hi.Ln} {k : Nat} (h : HaI w base H lv L k sv W) (hb : Below W.heap.size W W') (hw : base ≤ w.heap.size) : HaI w base H lv L k sv W' :=
  ⟨h.hm.below hb, h.ln.below hb, belows h.bel hb (Nat.le_trans hw h.sz), Nat.le_trans h.sz hb.size, h.ok⟩
theorem hung_one (H : HV) (L : List Hi.Ln) (sv : Nat → Value) : hung H L 1 sv = hung H L 0 sv := by
  unfold hung
  have e1 : suK L 1 = suK L 0 := by
    funext j
    unfold suK
    rw [if_neg (by omega), if_neg (by omega)]
  have e2 : Hi.ch 1 (Hi.sup L) = Hi.ch 0 (Hi.sup L) := by
    funext s
    rw [Hi.ch_one, Hi.ch_zero]
  rw [e1, e2]
theorem HaI.first {w W : World} {base : Nat} {H : HV} {lv : Value} {sv : Nat → Value} {L : List Hi.Ln} (h : HaI w base H lv L 0 sv W) : HaI w base H lv L 1 sv W :=
  ⟨by rw [hung_one]; exact h.hm, h.ln, h.bel, h.sz, fun j x h1 h2 => by omega⟩
/-- A super is written down. -/
theorem HaI.super {w W : World} {base : Nat} {H : HV} {lv : Value} {sv : Nat → Value} {L : List Hi.Ln} {k s g p : Nat} {x : Hi.Ln} (h : HaI w base H lv L k sv W) (hn : H.n = L.length) (hk : 1 ≤ k) (hx : L[k]? = some x) (hs : Hi.idx x.2 (Hi.nms L) = some s) (hv : H.cv = .slice (some ⟨g, 0, none⟩) H.n p) :
    HM (W.setCell ⟨g, k * 4 + 1, none⟩ (.int .i64 (s : Int))) base { hung H L k sv with su := suK L (k + 1) } ∧ Hi.sup L k = s := by
  have hlt := (List.getElem?_eq_some_iff.1 hx).1
  have hsup : Hi.sup L k = s := by unfold Hi.sup; rw [hx]; dsimp only; rw [hs]; rfl
  refine ⟨?_, hsup⟩
  refine h.hm.setRow (k := k) (i := 1) (u := .int .i64 (s : Int)) (su := suK L (k + 1)) (dp := H.dp) (by show k < H.n; omega) (by omega) hv ?_ (fun j hj => ⟨?_, rfl⟩)
  · unfold HV.row
    dsimp only
    unfold suK
    rw [if_pos (by omega), hsup]
    rfl
  · show suK L (k + 1) j = suK L k j
    unfold suK
    by_cases e : 1 ≤ j ∧ j < k
    · rw [if_pos e, if_pos (by omega)]
    · rw [if_neg e, if_neg (by omega)]
/-- One more class under its super. -/
theorem HaI.step {w W W1 W2 w3 : World} {base : Nat} {H : HV} {lv u : Value} {sv : Nat → Value} {L : List Hi.Ln} {k s g p : Nat} {x : Hi.Ln} (h : HaI w base H lv L k sv W) (hn : H.n = L.length) (hk : 1 ≤ k) (hx : L[k]? = some x) (hs : Hi.idx x.2 (Hi.nms L) = some s) (hv : H.cv = .slice (some ⟨g, 0, none⟩) H.n p)
    (hW1 : W1 = W.setCell ⟨g, k * 4 + 1, none⟩ (.int .i64 (s : Int))) (hb : Below W1.heap.size W1 W2) (hg : W2.grownBy w3 (sv s).ownBlock) (hu : u.ownBlock = (sv s).ownBlock ∨ u.ownBlock = some W2.heap.size)
    (ho : w3.ownsRow base 3 1 u ((Hi.ch k (Hi.sup L) s).length + 1) (natVals (Hi.ch k (Hi.sup L) s) ++ [.int .i64 (k : Int)])) (hw : base ≤ w.heap.size) :
    w3.cell? ⟨H.hb, 0, none⟩ = some H.cv ∧ w3.cell? ⟨g, s * 4 + 3, none⟩ = some (sv s) ∧ w3.frozen? ⟨g, s * 4 + 3, none⟩ = false ∧ HaI w base H lv L (k + 1) (upd sv s u) (w3.setCell ⟨g, s * 4 + 3, none⟩ u) := by
  obtain ⟨hM, hsup⟩ := h.super hn hk hx hs hv
  rw [← hW1] at hM
  have hsn : s < H.n := by have := Hi.idx_lt hs; rw [Hi.nms_len] at this; omega
  have hgb : H.cv.ownBlock = some g := by rw [hv]; rfl
  have hc13 := (Chg.of_below (S := fun i => (sv s).ownBlock = some i) hb).grown hg (fun j e => .inl e)
  have hsub : W1.ownsRow base 3 1 (sv s) _ _ := hM.sub s hsn
  have hcls1 := owns_chg hM.cls hc13 (fun j e e2 => own_unlike hM.cls hsub (by decide) j e e2)
  have hl1 : (Hi.ch k (Hi.sup L) s ++ [k]).length = (Hi.ch k (Hi.sup L) s).length + 1 := by simp
  have hA := hM.setSv (w1 := w3) (u := u) (l := Hi.ch k (Hi.sup L) s ++ [k]) hsn hv hc13 (by rw [hl1, Kit.natVals_snoc]; exact ho) (by
    rcases hu with e | e
    · exact .inl e
    · exact .inr ⟨_, hb.size, e⟩)
  have hSt : Chg (fun i => i = g ∨ (sv s).ownBlock = some i) W (w3.setCell ⟨g, s * 4 + 3, none⟩ u) := by
    have h1 : Chg (fun i => i = g ∨ (sv s).ownBlock = some i) W W1 := by rw [hW1]; exact (Chg.refl _ _).set (p := ⟨g, k * 4 + 1, none⟩) (.inl (.inl rfl)) _
    have h2 : Chg (fun i => i = g ∨ (sv s).ownBlock = some i) W w3 := h1.trans hc13 (fun i e => .inl (.inr e))
    exact h2.set (p := ⟨g, s * 4 + 3, none⟩) (.inl (.inl rfl)) _
  refine ⟨?_, ?_, own_frz hcls1 hgb _, ⟨?_, ?_, ?_, ?_, ?_⟩⟩
  · have hbx : BX w3 H.hb #[H.cv, .map (some H.mb), H.ov] 77 := BX.chg (w := W1) hM.box hc13 (own_unlike_box hsub hM.box (by decide))
    exact hbx.cell 0
  · have hHM1 : HV.at { hung H L k sv with su := suK L (k + 1) } (k := s) (j := 3) hsn (by omega) = HV.at { hung H L k sv with su := suK L (k + 1) } (k := s) (j := 3) hsn (by omega) := rfl
    have hat := HV.at { hung H L k sv with su := suK L (k + 1) } (k := s) (j := 3) hsn (by omega)
    rcases hcls1.2 with ⟨e, -⟩ | ⟨g', cap, cur, e, hgg, hh, c1, c2, c3, ht⟩
    · have e' : H.cv = .slice none 0 0 := e
      rw [hv] at e'; cases e'
    · have e' : H.cv = .slice (some ⟨g', 0, none⟩) H.n cap := e
      rw [hv] at e'
      obtain ⟨e1, -, rfl⟩ := Value.slice.inj e'
      obtain rfl : g = g' := by simpa using e1
      have hl := hcls1.1
      have hlt : s * 4 + 3 < ({ hung H L k sv with su := suK L (k + 1) } : HV).rows.length := by rw [hl]; show s * 4 + 3 < H.n * 4; omega
      have hc : cur[s * 4 + 3]? = some (sv s) := by
        rw [← ht, List.getElem?_take_of_lt (by show s * 4 + 3 < H.n * 4; omega)] at hat
        have : (HV.row { hung H L k sv with su := suK L (k + 1) } s)[3]? = some (sv s) := rfl
        rw [this] at hat
        simpa using hat
      simp [World.cell?, hh, hc]
  · have e : hung H L (k + 1) (upd sv s u) = { hung H L k sv with su := suK L (k + 1), sv := upd sv s u, sb := upd (Hi.ch k (Hi.sup L)) s (Hi.ch k (Hi.sup L) s ++ [k]) } := by
      unfold hung
      have e2 : Hi.ch (k + 1) (Hi.sup L) = upd (Hi.ch k (Hi.sup L)) s (Hi.ch k (Hi.sup L) s ++ [k]) := by
        funext j
        rw [Hi.ch_snoc, hsup]
        unfold upd
        by_cases e : j = s
        · subst e; rw [if_pos ⟨hk, rfl⟩, if_pos rfl]
        · rw [if_neg (fun e2 => e e2.2.symm), if_neg e]
      rw [e2]
    rw [e]
    exact hA
  · refine owns_chg h.ln hSt (fun j e => ?_)
    rintro (rfl | e2)
    · exact own_unlike h.ln h.hm.cls (by decide) j e hgb
    · exact own_unlike h.ln (h.hm.sub s hsn) (by decide) j e e2
  · refine h.bel.trans (hSt.to_below (fun j e => ?_) (Nat.le_trans hw h.sz))
    rcases e with rfl | e2
    · exact Kit.own_base h.hm.cls j hgb
    · exact Kit.own_base (h.hm.sub s hsn) j e2
  · exact Nat.le_trans h.sz hSt.size
  · intro j y h1 h2 hy
    by_cases e : j = k
    · subst e
      rw [hx] at hy
      cases hy
      rw [hs]; simp
    · exact h.ok j y h1 (by omega) hy
def HaPost (base : Nat) (H : HV) (L : List Hi.Ln) (w : World) (e : Ending) (w' : World) : Prop :=
  Below base w w' ∧ w.heap.size ≤ w'.heap.size ∧ ((e = .returned (.bool false) ∧ ∃ k x, 1 ≤ k ∧ L[k]? = some x ∧ Hi.idx x.2 (Hi.nms L) = none) ∨
    (e = .returned (.bool true) ∧ (∀ k x, 1 ≤ k → L[k]? = some x → Hi.idx x.2 (Hi.nms L) ≠ none) ∧ ∃ sv, HM w' base (hung H L L.length sv)))
set_option maxRecDepth 100000 in
set_option maxHeartbeats 1000000 in
theorem hangAll_any {w : World} {base : Nat} {H : HV} {lv : Value} {L : List Hi.Ln} (h : HM w base H) (hl : Lns w base lv L) (hn : H.n = L.length) (hn1 : L.length ≤ 72) (hnm : H.nm = Hi.nmf L) (hs : ∀ x ∈ L, x.2.size ≤ maxLen)
    (hsu : ∀ k, H.su k = -1) (hsb : ∀ k, H.sb k = []) :
    Calls Tryd.prog 46 #[.pointer (some ⟨H.hb, 0, none⟩), lv] w (HaPost base H L w) := by
  obtain ⟨i0, hi, hz0, hz1, hz2⟩ := info_parts infoI
  have hbase := Nat.le_of_lt h.base_lt
  obtain ⟨a, p, rfl⟩ := own_form hl
  have e0 : hung H L 0 H.sv = H := by
    unfold hung
    have e1 : suK L 0 = H.su := by funext j; rw [hsu]; unfold suK; rw [if_neg (by omega)]
    have e2 : Hi.ch 0 (Hi.sup L) = H.sb := by funext j; rw [hsb]; rfl
    rw [e1, e2]
  have H0 : HaI w base H (.slice a L.length p) L 0 H.sv w := ⟨by rw [e0]; exact h, hl, Below.refl _ _, Nat.le_refl _, fun j x h1 h2 => by omega⟩
  have hnames : H.names = Hi.nms L := by unfold HV.names; rw [hn, hnm]; exact (Hi.nms_eq L).symm
  have HI := hid H0
  have HS := hid hs
  have HN := hid hn
  have HNM := hid hnames
  have HC := hid (fun (hp : 1 ≤ H.n) => h.sight hp)
  clear H0 hs h hl e0 hsu hsb hnm hnames hn
  go_enter Tryd.func46, Tryd.ntmps46
  go_wp2
  go_loopw [11] (fun i wr => ∃ (k : Nat) (sv : Nat → Value), i = .int .i64 (k : Int) ∧ k ≤ L.length ∧ Hid (HaI w base H (.slice a L.length p) L k sv wr)) (fun i _ => L.length - (intOf i).toNat)
  case atStart => exact ⟨0, H.sv, rfl, by omega, HI⟩
  case round =>
    clear HI
    obtain ⟨k, sv, rfl, hk, HI⟩ := hrel
    by_cases hlt : k < L.length
    · obtain ⟨x, hx⟩ : ∃ x, L[k]? = some x := ⟨_, List.getElem?_eq_getElem hlt⟩
      obtain ⟨b, p', hv, hbl, y0, y1⟩ := HI.out.ln.at hx
      obtain ⟨rfl, -, rfl⟩ := Value.slice.inj hv
      have hI1 := HI.out.below (W' := wr.alloc (.cells #[.string x.1, .string x.2] 59)) ((Below.refl _ _).alloc (Nat.le_refl _) _) hbase
      have HI1 := hid hI1
      have HX := hid hx
      by_cases hk0 : k = 0
      · subst hk0
        clear hx hI1 hv
        go_wp2
        go_roundw
        case rel => exact ⟨1, sv, by go_num, by omega, HI1.out.first⟩
        case measure => simp [intOf]; omega
      · have hk1 : 1 ≤ k := by omega
        have hki : ¬ ((k : Int) = 0) := by omega
        have hxs := HS.out x (List.mem_of_getElem? hx)
        have hlk := fun m => (hI1.hm.drewN m).map.look x.2 hxs
        obtain ⟨k0, k1, k2⟩ := HI.out.hm.cells
        obtain ⟨r, hr⟩ : ∃ r, r = Hi.idx x.2 (hung H L k sv).names := ⟨_, rfl⟩
        rw [← hr] at hlk
        have hr2 : r = Hi.idx x.2 (Hi.nms L) := by rw [hr, ← HNM.out]; rfl
        have HR := hid hr2
        have hbw := HI.out.hm.hb_lt
        obtain ⟨g, pc, hcv, -, -⟩ := HC.out (by rw [HN.out]; omega)
        obtain ⟨g2, p2, e4, hgl, hsi⟩ := HI.out.hm.sight (by show 1 ≤ H.n; rw [HN.out]; omega)
        rw [show (hung H L k sv).cv = H.cv from rfl, hcv] at e4 k0
        obtain ⟨e5, -, rfl⟩ := Value.slice.inj e4
        rw [Option.some.injEq, Addr.mk.injEq] at e5
        obtain ⟨rfl, -, -⟩ := e5
        have hfr := own_frz HI.out.hm.cls (show H.cv.ownBlock = some g by rw [hcv]; rfl) (k * 4 + 1)
        have HCV := hid hcv
        rw [HN.out] at k0
        have hwl := HI.out.sz
        change wr.cell? ⟨H.hb, 1, none⟩ = some (.map (some H.mb)) at k1
        change wr.cell? ⟨H.hb, 0, none⟩ = _ at k0
        change H.hb < wr.heap.size at hbw
        change ∀ m, _ = _ at hlk
        have hsim : (hung H L k sv).mb = H.mb := rfl
        rw [hsim] at hlk
        clear hv hx hI1 hr hr2 e4 hsim hki
        have hki : ¬ ((k : Int) = 0) := by omega
        cases r with
        | none =>
          simp only [Option.isSome_none, Option.getD_none] at hlk
          clear hsi
          go_wp2
          go_quiet (fail)
          go_wp2
          go_ret
          exact ⟨belows HI1.out.bel (below_drewN _ _) (Nat.le_trans hbase HI1.out.sz), Nat.le_trans HI1.out.sz (Nat.le_refl _), .inl ⟨rfl, k, x, hk1, HX.out, HR.out.symm⟩⟩
        | some s =>
          simp only [Option.isSome_some, Option.getD_some] at hlk
          have hsn : s < L.length := by have := Hi.idx_lt HR.out.symm; rwa [Hi.nms_len] at this
          go_wp2
          obtain ⟨-, c1, -, -⟩ := hsi k (by show k < H.n; rw [HN.out]; exact hlt)
          clear hsi
          go_quiet (fail)
          go_wp2
          have HI2 := hid (HI1.out.below (W' := (wr.alloc (.cells #[.string x.1, .string x.2] 59)).drewN nq) (below_drewN _ _) hbase)
          obtain ⟨hM, -⟩ := HI2.out.super HN.out hk1 HX.out HR.out.symm HCV.out
          obtain ⟨W1, hW1⟩ : ∃ W1, W1 = ((wr.alloc (.cells #[.string x.1, .string x.2] 59)).drewN nq).setCell ⟨g, k * 4 + 1, none⟩ (.int .i64 (s : Int)) := ⟨_, rfl⟩
          have HW1 := hid hW1
          rw [← hW1] at hM ⊢
          obtain ⟨z0, -, -⟩ := hM.cells
          obtain ⟨g2, p2, e4, hg1, hsi⟩ := hM.sight (by show 1 ≤ H.n; rw [HN.out]; omega)
          change H.cv = _ at e4
          rw [HCV.out] at e4
          obtain ⟨e5, -, rfl⟩ := Value.slice.inj e4
          rw [Option.some.injEq, Addr.mk.injEq] at e5
          obtain ⟨rfl, -, -⟩ := e5
          obtain ⟨-, -, -, s3⟩ := hsi s (by show s < H.n; rw [HN.out]; exact hsn)
          change W1.cell? ⟨g, s * 4 + 3, none⟩ = some (sv s) at s3
          change W1.cell? ⟨H.hb, 0, none⟩ = some H.cv at z0
          rw [HCV.out, HN.out] at z0
          have hlen := Hi.ch_len k (Hi.sup L) s
          have HOw := hid (fun X (b : Below W1.heap.size W1 X) => Kit.owns_below (hM.sub s (by show s < H.n; rw [HN.out]; exact hsn)) b (Nat.le_refl _))
          have hbl1 := hM.hb_lt
          have hbb := hM.base_lt
          obtain ⟨u, hu⟩ : ∃ u, sv s = u := ⟨_, rfl⟩
          have HU := hid hu
          rw [hu] at s3
          change Hid (∀ X, Below W1.heap.size W1 X → X.ownsRow base 3 1 (sv s) (Hi.ch k (Hi.sup L) s).length (natVals (Hi.ch k (Hi.sup L) s))) at HOw
          rw [hu] at HOw
          obtain ⟨ua, ucap, rfl⟩ := own_form (HOw.out W1 (Below.refl _ _))
          clear hM hW1 hsi e4 hu k0 c1 hfr hlk y0 y1 k1
          change H.hb < W1.heap.size at hbl1
          go_region_law (refine Kit.step_append_own rfl (.tmp 50) (.tmp 52) 75 rfl base 3 i0 _ 1 8 Tryd.underlying75 hi hz0 hz1 hz2 rfl (by decide) (.slice ua (Hi.ch k (Hi.sup L) s).length ucap) (Hi.ch k (Hi.sup L) s).length _ rfl (HOw.out _ (by repeat' first | with_reducible exact Below.refl _ _ | with_reducible assumption | with_reducible refine belows_drewN ?_ _ | with_reducible refine Below.drew ?_ | with_reducible refine Below.setCell ?_ ?_ _ | with_reducible refine Below.alloc ?_ ?_ _ | omega | (simp; done) | (simp; omega))) ⟨W1.heap.size, 0, none⟩ 1 1 [.int .i64 (k : Int)] rfl rfl (by intro j u hj; exact Kit.news_one _ _ 3 j u hj) (Kit.ones_one rfl) (by unfold maxLen; omega) (by omega) (by first | omega | (simp; omega)) ?_; intro v2 w3 ho3 hg3 hk3; rw [← HU.out] at hg3 hk3; obtain ⟨c0, c3, y3, hN⟩ := HI2.out.step (u := v2) HN.out hk1 HX.out HR.out.symm HCV.out HW1.out (by repeat' first | with_reducible exact Below.refl _ _ | with_reducible assumption | with_reducible refine belows_drewN ?_ _ | with_reducible refine Below.drew ?_ | with_reducible refine Below.setCell ?_ ?_ _ | with_reducible refine Below.alloc ?_ ?_ _ | omega | (simp; done) | (simp; omega)) hg3 hk3 ho3 hbase; rw [HU.out] at c3; rw [HCV.out, HN.out] at c0; have HNx := hid hN; obtain ⟨b2, q2, rfl⟩ := own_form ho3; clear ho3 hg3 hk3 hN)
          all_goals
            go_wp2
            go_roundw
            case rel => exact ⟨k + 1, _, by go_num, by omega, HNx⟩
            case measure => simp [intOf]; omega
    · obtain rfl : k = L.length := by omega
      go_wp2
      go_ret
      refine ⟨HI.out.bel, HI.out.sz, .inr ⟨rfl, fun j y h1 hy => HI.out.ok j y h1 (List.getElem?_eq_some_iff.1 hy).1 hy, sv, HI.out.hm⟩⟩
end Go.Proofs.YtahjnaoabfkpcaaDoor
namespace Go.Proofs.YtahjnaoabfkpcaaDoor
open Go Go.RowKit
open Kit (natVals)

/-- The document's hierarchy as it lies: names, supers. -/
structure RM (w : World) (base rb : Nat) (N : List ByteArray) (S : List Int) : Prop where
  ex : ∃ nv sv, w.heap[rb]? = some (.cells #[nv, sv] 82 (0, 0)) ∧ w.ownsRow base 9 1 nv N.length (N.map Value.string) ∧ w.ownsRow base 3 1 sv S.length (S.map (Value.int .i64))
  lb : base ≤ rb
theorem RM.lt {w : World} {base rb : Nat} {N : List ByteArray} {S : List Int} (h : RM w base rb N S) : rb < w.heap.size := by
  obtain ⟨nv, sv, h1, -⟩ := h.ex
  exact (Array.getElem?_eq_some_iff.1 h1).1
theorem RM.below {w w' : World} {base rb : Nat} {N : List ByteArray} {S : List Int} (h : RM w base rb N S) (hb : Below w.heap.size w w') : RM w' base rb N S := by
  have hlt := h.lt
  obtain ⟨nv, sv, h1, h2, h3⟩ := h.ex
  exact ⟨⟨nv, sv, (hb.block _ hlt).trans h1, Kit.owns_below h2 hb (Nat.le_refl _), Kit.owns_below h3 hb (Nat.le_refl _)⟩, h.lb⟩
/-- Its cells, in sight. -/
theorem RM.sight {w : World} {base rb : Nat} {N : List ByteArray} {S : List Int} (h : RM w base rb N S) (hN : N.length ≤ 1000) (hS : 0 < S.length) : ∃ na np sg sp, w.cell? ⟨rb, 0, none⟩ = some (.slice na N.length np) ∧ w.cell? ⟨rb, 1, none⟩ = some (.slice (some ⟨sg, 0, none⟩) S.length sp) ∧
    Kit.IsS 1 w (.slice na N.length np) N.length (N.map Value.string) ∧ sg < w.heap.size ∧ ∀ (k : Nat) (x : Int), S[k]? = some x → w.cell? ⟨sg, k, none⟩ = some (.int .i64 x) := by
  obtain ⟨nv, sv, h1, h2, h3⟩ := h.ex
  have hI := Kit.isS_of_owns h2 (by omega)
  obtain ⟨na, np, rfl⟩ := hI.len
  rcases h3.2 with ⟨-, e⟩ | ⟨g, cap, cur, rfl, hg, hh, c1, c2, c3, ht⟩
  · omega
  · refine ⟨na, np, g, cap, by simp [World.cell?, h1], by simp [World.cell?, h1], hI, (Array.getElem?_eq_some_iff.1 hh).1, fun k x hk => ?_⟩
    have hkl := (List.getElem?_eq_some_iff.1 hk).1
    have : cur[k]? = some (.int .i64 x) := by
      have e : (S.map (Value.int .i64))[k]? = some (.int .i64 x) := by simp [hk]
      rw [← ht, List.getElem?_take_of_lt (by omega)] at e
      simpa using e
    simp [World.cell?, hh, this]
theorem str_ne {a b : ByteArray} (h : ¬ a = b) : (a.toList == b.toList) = false := by
  rw [beq_eq_false_iff_ne, ne_eq, ByteArray.toList_eq, ByteArray.toList_eq]
  exact fun e => h (ba_eq e)
def idxI (s : ByteArray) (N : List ByteArray) : Int := match Hi.idx s N with | some k => (k : Int) | none => -1
theorem strs_at {w : World} {v : Value} {N : List ByteArray} (h : Kit.IsS 1 w v N.length (N.map Value.string)) {k : Nat} {s : ByteArray} (hk : N[k]? = some s) : ∃ b o cap, v = .slice (some ⟨b, o, none⟩) N.length cap ∧ b < w.heap.size ∧ w.cell? ⟨b, o + k, none⟩ = some (.string s) := by
  obtain ⟨b, o, cap, h1, -, h3, h4⟩ := h.some (by have := (List.getElem?_eq_some_iff.1 hk).1; omega)
  exact ⟨b, o, cap, h1, h3, h4 k _ (by simp [hk])⟩
theorem idx_here {s : ByteArray} {N : List ByteArray} {k : Nat} (h : N[k]? = some s) (hn : ∀ j, j < k → N[j]? ≠ some s) : idxI s N = (k : Int) := by
  unfold idxI
  cases hx : Hi.idx s N with
  | none => exact absurd (List.mem_of_getElem? h) (Hi.idx_none.1 hx)
  | some j =>
    have hj := Hi.idx_some hx
    have h1 : ¬ j < k := fun e => hn j e hj
    by_cases e : k < j
    · exfalso
      have : ∀ (N : List ByteArray) (j k : Nat), Hi.idx s N = some j → N[k]? = some s → ¬ k < j := by
        intro N
        induction N with
        | nil => intro j k h; simp [Hi.idx] at h
        | cons x xs ih =>
          intro j k h hk hlt
          have e1 : Hi.idx s (x :: xs) = if x = s then some 0 else (Hi.idx s xs).map (· + 1) := rfl
          rw [e1] at h
          by_cases ex : x = s
          · rw [if_pos ex] at h; cases h; omega
          · rw [if_neg ex] at h
            cases hx2 : Hi.idx s xs with
            | none => rw [hx2] at h; simp at h
            | some i =>
              rw [hx2] at h
              simp only [Option.map_some, Option.some.injEq] at h
              subst h
              cases k with
              | zero => simp at hk; exact ex hk
              | succ k => exact ih i k hx2 (by simpa using hk) (by omega)
      exact this N j k hx h e
    · have : j = k := by omega
      simp [this]
theorem idx_not {s : ByteArray} {N : List ByteArray} (hn : ∀ j, j < N.length → N[j]? ≠ some s) : idxI s N = -1 := by
  unfold idxI
  cases hx : Hi.idx s N with
  | none => rfl
  | some j => exact absurd (Hi.idx_some hx) (hn j (Hi.idx_lt hx))
set_option maxRecDepth 100000 in
theorem find_any {w : World} {v : Value} {N : List ByteArray} (hv : Kit.IsS 1 w v N.length (N.map Value.string)) (s : ByteArray) :
    Calls Tryd.prog 49 #[v, .string s] w fun e w' => e = .returned (.int .i64 (idxI s N)) ∧ w = w' := by
  have hlen := hv.2.1
  have HV := hid hv
  obtain ⟨a, cap, rfl⟩ := hv.len
  clear hv
  go_enter Tryd.func49, Tryd.ntmps49
  go_wp2
  go_loop [5] (fun i => ∃ k : Nat, i = .int .i64 (k : Int) ∧ k ≤ N.length ∧ Hid (∀ j, j < k → N[j]? ≠ some s)) (fun i => N.length - (intOf i).toNat)
  case atStart => exact ⟨0, rfl, by omega, fun j h => by omega⟩
  case round =>
    obtain ⟨k, rfl, hk, HN⟩ := hrel
    by_cases hlt : k < N.length
    · obtain ⟨x, hx⟩ : ∃ x, N[k]? = some x := ⟨_, List.getElem?_eq_getElem hlt⟩
      obtain ⟨b, o, c, hsl, hbl, y0⟩ := strs_at HV.out hx
      obtain ⟨rfl, -, rfl⟩ := Value.slice.inj hsl
      have HX := hid hx
      clear hsl hx
      by_cases e : x = s
      · subst e
        have hres := hid (idx_here HX.out HN.out)
        go_wp2
        go_ret
        exact ⟨by rw [hres.out]; rfl, rfl⟩
      · have e2 := str_ne e
        go_wp2
        go_round
        case rel => exact ⟨k + 1, by go_num, by omega, fun j hj => by
          by_cases ej : j = k
          · subst ej; rw [HX.out]; simpa using e
          · exact HN.out j (by omega)⟩
        case measure => simp [intOf]; omega
    · obtain rfl : k = N.length := by omega
      have hres := hid (idx_not HN.out)
      go_wp2
      go_ret
      exact ⟨by rw [hres.out]; rfl, rfl⟩
end Go.Proofs.YtahjnaoabfkpcaaDoor
namespace Go.Proofs.YtahjnaoabfkpcaaDoor
open Go Go.RowKit
open Kit (natVals)

/-- A hierarchy that the document makes. -/
structure ROk (n : Nat) (P D : Nat → Nat) (N : List ByteArray) (S : List Int) : Prop where
  tr : Hi.Tr n P D
  le : n ≤ 72
  nl : N.length = n
  sl : S.length = n
  su : ∀ k, k < n → S[k]? = some (if k = 0 then -1 else (P k : Int))
section
variable {w : World} {base rb n : Nat} {P D : Nat → Nat} {N : List ByteArray} {S : List Int}
set_option maxRecDepth 100000
end
end Go.Proofs.YtahjnaoabfkpcaaDoor
namespace Go.Proofs.YtahjnaoabfkpcaaDoor
open Go Go.RowKit
open Kit (natVals)

abbrev strV (N : List ByteArray) : List Value := N.map Value.string
abbrev intV (S : List Int) : List Value := S.map (Value.int .i64)
/-- The document's hierarchy with its rows in sight. -/
structure RX (w : World) (base rb : Nat) (nv sv : Value) (N : List ByteArray) (S : List Int) : Prop where
  box : w.heap[rb]? = some (.cells #[nv, sv] 82 (0, 0))
  nms : w.ownsRow base 9 1 nv N.length (strV N)
  sup : w.ownsRow base 3 1 sv S.length (intV S)
  lb : base ≤ rb
section
variable {w w0 w1 w2 : World} {base rb : Nat} {nv sv : Value} {N : List ByteArray} {S : List Int}
theorem RX.rm (h : RX w base rb nv sv N S) : RM w base rb N S := ⟨⟨nv, sv, h.box, h.nms, h.sup⟩, h.lb⟩
theorem RX.lt (h : RX w base rb nv sv N S) : rb < w.heap.size := (Array.getElem?_eq_some_iff.1 h.box).1
theorem RX.below (h : RX w base rb nv sv N S) (hb : Below w.heap.size w w1) : RX w1 base rb nv sv N S :=
  ⟨(hb.block _ h.lt).trans h.box, Kit.owns_below h.nms hb (Nat.le_refl _), Kit.owns_below h.sup hb (Nat.le_refl _), h.lb⟩
/-- One more name. -/
theorem RX.name (h : RX w base rb nv sv N S) (hB : Below base w0 w) (hw : base ≤ w.heap.size) {u : Value} {x : ByteArray} (hb : Below w.heap.size w w1) (hg : w1.grownBy w2 nv.ownBlock)
    (ho : w2.ownsRow base 9 1 u (N.length + 1) (strV N ++ [.string x])) :
    w2.cell? ⟨rb, 0, none⟩ = some nv ∧ w2.frozen? ⟨rb, 0, none⟩ = false ∧ RX (w2.setCell ⟨rb, 0, none⟩ u) base rb u sv (N ++ [x]) S ∧ Below base w0 (w2.setCell ⟨rb, 0, none⟩ u) ∧ w.heap.size ≤ (w2.setCell ⟨rb, 0, none⟩ u).heap.size := by
  have hc := (Chg.of_below (S := fun i => nv.ownBlock = some i) hb).grown hg (fun j e => .inl e)
  have hbx : BX w2 rb #[nv, sv] 82 := BX.chg (w := w) h.box hc (own_unlike_box h.nms h.box (by decide))
  have hS : Chg (fun i => i = rb) w2 (w2.setCell ⟨rb, 0, none⟩ u) := (Chg.refl (fun k => k = rb) w2).set (p := ⟨rb, 0, none⟩) (.inl rfl) u
  have hA : Chg (fun i => nv.ownBlock = some i ∨ i = rb) w (w2.setCell ⟨rb, 0, none⟩ u) := (hc.mono (T := fun i => nv.ownBlock = some i ∨ i = rb) (fun i _ e => .inl e)).set (.inl (.inr rfl)) _
  refine ⟨hbx.cell 0, hbx.frozen 0, ⟨box_set hbx _ _, ?_, owns_chg (owns_chg h.sup hc (own_unlike h.sup h.nms (by decide))) hS (fun k e e2 => own_unlike_box h.sup h.box (by decide) (e2 ▸ e)), h.lb⟩, hB.trans (hA.to_below (fun j e => ?_) hw), hA.size⟩
  · have e1 : (N ++ [x]).length = N.length + 1 := by simp
    have e2 : strV (N ++ [x]) = strV N ++ [.string x] := by simp
    rw [e1, e2]
    exact owns_chg ho hS (fun k e e2 => own_unlike_box ho hbx (by decide) (e2 ▸ e))
  · rcases e with e | rfl
    · exact Kit.own_base h.nms j e
    · exact h.lb
/-- One more super. -/
theorem RX.super (h : RX w base rb nv sv N S) (hB : Below base w0 w) (hw : base ≤ w.heap.size) {u : Value} {x : Int} (hb : Below w.heap.size w w1) (hg : w1.grownBy w2 sv.ownBlock)
    (ho : w2.ownsRow base 3 1 u (S.length + 1) (intV S ++ [.int .i64 x])) :
    w2.cell? ⟨rb, 1, none⟩ = some sv ∧ w2.frozen? ⟨rb, 1, none⟩ = false ∧ RX (w2.setCell ⟨rb, 1, none⟩ u) base rb nv u N (S ++ [x]) ∧ Below base w0 (w2.setCell ⟨rb, 1, none⟩ u) ∧ w.heap.size ≤ (w2.setCell ⟨rb, 1, none⟩ u).heap.size := by
  have hc := (Chg.of_below (S := fun i => sv.ownBlock = some i) hb).grown hg (fun j e => .inl e)
  have hbx : BX w2 rb #[nv, sv] 82 := BX.chg (w := w) h.box hc (own_unlike_box h.sup h.box (by decide))
  have hS : Chg (fun i => i = rb) w2 (w2.setCell ⟨rb, 1, none⟩ u) := (Chg.refl (fun k => k = rb) w2).set (p := ⟨rb, 1, none⟩) (.inl rfl) u
  have hA : Chg (fun i => sv.ownBlock = some i ∨ i = rb) w (w2.setCell ⟨rb, 1, none⟩ u) := (hc.mono (T := fun i => sv.ownBlock = some i ∨ i = rb) (fun i _ e => .inl e)).set (.inl (.inr rfl)) _
  refine ⟨hbx.cell 1, hbx.frozen 1, ⟨box_set hbx _ _, owns_chg (owns_chg h.nms hc (own_unlike h.nms h.sup (by decide))) hS (fun k e e2 => own_unlike_box h.nms h.box (by decide) (e2 ▸ e)), ?_, h.lb⟩, hB.trans (hA.to_below (fun j e => ?_) hw), hA.size⟩
  · have e1 : (S ++ [x]).length = S.length + 1 := by simp
    have e2 : intV (S ++ [x]) = intV S ++ [.int .i64 x] := by simp
    rw [e1, e2]
    exact owns_chg ho hS (fun k e e2 => own_unlike_box ho hbx (by decide) (e2 ▸ e))
  · rcases e with e | rfl
    · exact Kit.own_base h.sup j e
    · exact h.lb
end
theorem lines_at {w : World} {v : Value} {l : List Hi.Ln} (h : Kit.IsS 2 w v l.length (l.flatMap lnL)) {k : Nat} {x : Hi.Ln} (hx : l[k]? = some x) : ∃ b o p, v = .slice (some ⟨b, o, none⟩) l.length p ∧ b < w.heap.size ∧ w.cell? ⟨b, o + k * 2, none⟩ = some (.string x.1) ∧ w.cell? ⟨b, o + k * 2 + 1, none⟩ = some (.string x.2) := by
  have hk := (List.getElem?_eq_some_iff.1 hx).1
  obtain ⟨b, o, cap, h1, -, h3, h4⟩ := h.some (by omega)
  refine ⟨b, o, cap, h1, h3, ?_, ?_⟩
  · exact h4 (k * 2) _ (by have := Kit.flat_at lnL_len hx 0 (by omega); simpa [lnL] using this)
  · have := h4 (k * 2 + 1) (.string x.2) (by have := Kit.flat_at lnL_len hx 1 (by omega); simpa [lnL] using this)
    rw [Nat.add_assoc]
    exact this
/-- The supers of the classes that are built in. -/
def blS : List Int := [-1, 0, 1, 1, 1, 1, 1, 1]
/-- Supers, as the document writes them. -/
def supS (N : List ByteArray) (l : List Hi.Ln) : List Int := blS ++ l.map fun x => idxI x.2 N
theorem supS_at {l : List Hi.Ln} (hok : ∀ k x, 1 ≤ k → (Hi.bl ++ l)[k]? = some x → Hi.idx x.2 (Hi.nms (Hi.bl ++ l)) ≠ none) {k : Nat} (hk : k < (Hi.bl ++ l).length) : (supS (Hi.nms (Hi.bl ++ l)) l)[k]? = some (if k = 0 then -1 else ((Hi.sup (Hi.bl ++ l) k : Nat) : Int)) := by
  have hO : ∀ M : List ByteArray, Hi.idx Hi.bO (Hi.bO :: M) = some 0 := fun M => by show (if Hi.bO = Hi.bO then some 0 else _) = _; rw [if_pos rfl]
  have hT : ∀ M : List ByteArray, Hi.idx Hi.bT (Hi.bO :: Hi.bT :: M) = some 1 := fun M => by
    show (if Hi.bO = Hi.bT then some 0 else (if Hi.bT = Hi.bT then some 0 else _).map (· + 1)) = _
    rw [if_neg (by decide), if_pos rfl]; rfl
  unfold supS
  by_cases h8 : k < 8
  · rw [List.getElem?_append_left (by exact h8)]
    have e : ∀ j, j < 8 → (Hi.bl ++ l)[j]? = Hi.bl[j]? := fun j hj => List.getElem?_append_left hj
    unfold Hi.sup
    rw [e k h8]
    match k, h8 with
    | 0, _ => rfl
    | 1, _ => show some 0 = some ((((Hi.idx Hi.bO (Hi.nms (Hi.bl ++ l))).getD 0 : Nat)) : Int); rw [show Hi.nms (Hi.bl ++ l) = Hi.bO :: Hi.nms (Hi.bl.tail ++ l) from rfl, hO]; rfl
    | 2, _ | 3, _ | 4, _ | 5, _ | 6, _ | 7, _ => show some 1 = some ((((Hi.idx Hi.bT (Hi.nms (Hi.bl ++ l))).getD 0 : Nat)) : Int); rw [show Hi.nms (Hi.bl ++ l) = Hi.bO :: Hi.bT :: Hi.nms (Hi.bl.tail.tail ++ l) from rfl, hT]; rfl
  · have h8l : blS.length = 8 := rfl
    rw [List.getElem?_append_right (by rw [h8l]; omega), h8l, List.getElem?_map, if_neg (by omega)]
    have e : (Hi.bl ++ l)[k]? = l[k - 8]? := by rw [List.getElem?_append_right (by rw [Hi.bl_len]; omega), Hi.bl_len]
    unfold Hi.sup
    rw [e]
    rw [List.length_append, Hi.bl_len] at hk
    obtain ⟨x, hx⟩ : ∃ x, l[k - 8]? = some x := ⟨_, List.getElem?_eq_getElem (by omega)⟩
    rw [hx]
    have h1 := hok k x (by omega) (e.trans hx)
    simp only [Option.map_some]
    unfold idxI
    cases hi : Hi.idx x.2 (Hi.nms (Hi.bl ++ l)) with
    | none => exact absurd hi h1
    | some j => rfl
end Go.Proofs.YtahjnaoabfkpcaaDoor
namespace Go.Proofs.YtahjnaoabfkpcaaDoor
open Go.Shelf
def Sh.sort_ren : Go.Shelf.Ren := ⟨fun | 6 => 59 | 14 => 73 | 15 => 74 | 20 => 81 | 21 => 82 | 22 => 83 | 23 => 84 | 24 => 85 | 25 => 86 | 26 => 87 | 27 => 88 | 28 => 89 | 29 => 90 | 46 => 95 | 47 => 96 | 48 => 97 | 49 => 98 | 50 => 99 | 57 => 101 | n => n, fun | 0 => 0 | 3 => 3 | 4 => 4 | 5 => 5 | 9 => 9 | 22 => 75 | 24 => 3 | 25 => 97 | 39 => 110 | 45 => 115 | 46 => 116 | 50 => 84 | 53 => 122 | 55 => 124 | 66 => 133 | 70 => 137 | 76 => 139 | 77 => 140 | n => n, fun | n => n⟩
theorem Sh.sort : Go.Proofs.SlLaysF.n6 Tryd.prog Sh.sort_ren := {
  mixed := by kernel_rfl
  f6 := ⟨"slices.SortFunc[[]int,int]", by decide, Tryd.func59.trans (congrArg some (by kernel_rfl))⟩
  f14 := ⟨"slices.pdqsortCmpFunc[int]", by decide, Tryd.func73.trans (congrArg some (by kernel_rfl))⟩
  f15 := Tryd.func74.trans (congrArg some (by kernel_rfl))
  f20 := ⟨"slices.insertionSortCmpFunc[int]", by decide, Tryd.func81.trans (congrArg some (by kernel_rfl))⟩
  f21 := ⟨"slices.heapSortCmpFunc[int]", by decide, Tryd.func82.trans (congrArg some (by kernel_rfl))⟩
  f22 := ⟨"slices.breakPatternsCmpFunc[int]", by decide, Tryd.func83.trans (congrArg some (by kernel_rfl))⟩
  f23 := ⟨"slices.choosePivotCmpFunc[int]", by decide, Tryd.func84.trans (congrArg some (by kernel_rfl))⟩
  f24 := ⟨"slices.reverseRangeCmpFunc[int]", by decide, Tryd.func85.trans (congrArg some (by kernel_rfl))⟩
  f25 := ⟨"slices.partialInsertionSortCmpFunc[int]", by decide, Tryd.func86.trans (congrArg some (by kernel_rfl))⟩
  f26 := ⟨"slices.partitionEqualCmpFunc[int]", by decide, Tryd.func87.trans (congrArg some (by kernel_rfl))⟩
  f27 := ⟨"slices.partitionCmpFunc[int]", by decide, Tryd.func88.trans (congrArg some (by kernel_rfl))⟩
  f28 := Tryd.func89.trans (congrArg some (by kernel_rfl))
  f29 := Tryd.func90.trans (congrArg some (by kernel_rfl))
  f46 := ⟨"slices.siftDownCmpFunc[int]", by decide, Tryd.func95.trans (congrArg some (by kernel_rfl))⟩
  f47 := Tryd.func96.trans (congrArg some (by kernel_rfl))
  f48 := Tryd.func97.trans (congrArg some (by kernel_rfl))
  f49 := ⟨"slices.medianAdjacentCmpFunc[int]", by decide, Tryd.func98.trans (congrArg some (by kernel_rfl))⟩
  f50 := ⟨"slices.medianCmpFunc[int]", by decide, Tryd.func99.trans (congrArg some (by kernel_rfl))⟩
  f57 := ⟨"slices.order2CmpFunc[int]", by decide, Tryd.func101.trans (congrArg some (by kernel_rfl))⟩
  t0 := Tryd.underlying0
  a0 := Tryd.isAgg0
  z0 := Tryd.sizeOf0
  v0 := Tryd.zeroValue0
  t3 := Tryd.underlying3
  a3 := Tryd.isAgg3
  z3 := Tryd.sizeOf3
  v3 := Tryd.zeroValue3
  t4 := Tryd.underlying4
  a4 := Tryd.isAgg4
  z4 := Tryd.sizeOf4
  v4 := Tryd.zeroValue4
  t5 := Tryd.underlying5
  a5 := Tryd.isAgg5
  z5 := Tryd.sizeOf5
  v5 := Tryd.zeroValue5
  t9 := Tryd.underlying9
  a9 := Tryd.isAgg9
  z9 := Tryd.sizeOf9
  v9 := Tryd.zeroValue9
  t22 := Tryd.underlying75
  a22 := Tryd.isAgg75
  z22 := Tryd.sizeOf75
  v22 := Tryd.zeroValue75
  a24 := Tryd.isAgg3
  z24 := Tryd.sizeOf3
  t25 := Tryd.underlying97
  a25 := Tryd.isAgg97
  z25 := Tryd.sizeOf97
  v25 := Tryd.zeroValue97
  t39 := Tryd.underlying110
  a39 := Tryd.isAgg110
  z39 := Tryd.sizeOf110
  v39 := Tryd.zeroValue110
  t45 := Tryd.underlying115
  a45 := Tryd.isAgg115
  z45 := Tryd.sizeOf115
  v45 := Tryd.zeroValue115
  t46 := Tryd.underlying116
  a46 := Tryd.isAgg116
  z46 := Tryd.sizeOf116
  v46 := Tryd.zeroValue116
  t50 := Tryd.underlying84
  a50 := Tryd.isAgg84
  z50 := Tryd.sizeOf84
  v50 := Tryd.zeroValue84
  t53 := Tryd.underlying122
  a53 := Tryd.isAgg122
  z53 := Tryd.sizeOf122
  v53 := Tryd.zeroValue122
  t55 := Tryd.underlying124
  a55 := Tryd.isAgg124
  z55 := Tryd.sizeOf124
  v55 := Tryd.zeroValue124
  t66 := Tryd.underlying133
  a66 := Tryd.isAgg133
  z66 := Tryd.sizeOf133
  v66 := Tryd.zeroValue133
  t70 := Tryd.underlying137
  a70 := Tryd.isAgg137
  z70 := Tryd.sizeOf137
  v70 := Tryd.zeroValue137
  t76 := Tryd.underlying139
  a76 := Tryd.isAgg139
  z76 := Tryd.sizeOf139
  v76 := Tryd.zeroValue139
  t77 := Tryd.underlying140
  a77 := Tryd.isAgg140
  z77 := Tryd.sizeOf140
  v77 := Tryd.zeroValue140 }
end Go.Proofs.YtahjnaoabfkpcaaDoor
namespace Go.Proofs.YtahjnaoabfkpcaaDoor
open Go Go.RowKit
open Kit (natVals)

set_option maxRecDepth 100000 in
theorem nan_any (x : Int) (w : World) : Calls Tryd.prog 75 #[.int .i64 x] w fun e w' => e = .returned (.bool false) ∧ w = w' := by
  go_enter Tryd.func75, Tryd.ntmps75
  go_wp2
  go_ret
  exact ⟨by simp, rfl⟩
set_option maxRecDepth 100000 in
theorem compare_any (x y : Int) (w : World) : Calls Tryd.prog 62 #[.int .i64 x, .int .i64 y] w fun e w' => e = .returned (.int .i64 (Lib.compareInt x y)) ∧ w = w' := by
  unfold Lib.compareInt
  have HN := fun x => nan_any x w
  by_cases h1 : x < y
  · rw [if_pos h1]
    go_enter Tryd.func62, Tryd.ntmps62
    go_wp2_with (go_at_call 75; refine (HN _).mono ?_; rintro e w' ⟨rfl, rfl⟩)
    go_ret
    exact ⟨rfl, rfl⟩
  · rw [if_neg h1]
    by_cases h2 : x > y
    · rw [if_pos h2]
      have h2' : y < x := h2
      go_enter Tryd.func62, Tryd.ntmps62
      go_wp2_with (go_at_call 75; refine (HN _).mono ?_; rintro e w' ⟨rfl, rfl⟩)
      go_ret
      exact ⟨rfl, rfl⟩
    · rw [if_neg h2]
      have h2' : ¬ y < x := h2
      go_enter Tryd.func62, Tryd.ntmps62
      go_wp2_with (go_at_call 75; refine (HN _).mono ?_; rintro e w' ⟨rfl, rfl⟩)
      go_ret
      exact ⟨rfl, rfl⟩
set_option maxRecDepth 100000 in
theorem or_any (c d : Int) (b cap : Nat) (w : World) (h0 : w.cell? ⟨b, 0, none⟩ = some (.int .i64 c)) (h1 : w.cell? ⟨b, 1, none⟩ = some (.int .i64 d)) :
    Calls Tryd.prog 61 #[.slice (some ⟨b, 0, none⟩) 2 cap] w fun e w' => e = .returned (.int .i64 (if c = 0 then d else c)) ∧ w = w' := by
  go_enter Tryd.func61, Tryd.ntmps61
  go_wp2
  go_loop [8] (fun i => ∃ k : Nat, i = .int .i64 (k : Int) ∧ k ≤ 2 ∧ Hid (1 ≤ k → c = 0) ∧ Hid (2 ≤ k → d = 0)) (fun i => 2 - (intOf i).toNat)
  case atStart => exact ⟨0, rfl, by omega, fun h => by omega, fun h => by omega⟩
  case round =>
    obtain ⟨k, rfl, hk, H1, H2⟩ := hrel
    by_cases k0 : k = 0
    · subst k0
      by_cases hc : c = 0
      · subst hc
        go_wp2
        go_round
        case rel => exact ⟨1, by go_num, by omega, fun _ => by first | rfl | trivial, fun h => by omega⟩
        case measure => simp [intOf]
      · go_wp2
        go_ret
        exact ⟨by simp, rfl⟩
    · by_cases k1 : k = 1
      · subst k1
        have hc : c = 0 := H1.out (by omega)
        subst hc
        by_cases hd : d = 0
        · subst hd
          go_wp2
          go_round
          case rel => exact ⟨2, by go_num, by omega, fun _ => by first | rfl | trivial, fun _ => by first | rfl | trivial⟩
          case measure => simp [intOf]
        · go_wp2
          go_ret
          exact ⟨by simp, rfl⟩
      · obtain rfl : k = 2 := by omega
        have hc : c = 0 := H1.out (by omega)
        have hd : d = 0 := H2.out (by omega)
        subst hc hd
        go_wp2
        go_ret
        exact ⟨by simp, rfl⟩
def cfO (D : Nat → Nat) (a b : Nat) : Int := if Lib.compareInt (D a) (D b) = 0 then Lib.compareInt a b else Lib.compareInt (D a) (D b)
theorem cf_cmp (v : Value) (v' : Value) (w : World) : (callFunc 62 #[v, v']).run Tryd.prog w = .ok (.enter 62 #[v, v']) w := enters_of Tryd.func62 (by kernel_rfl) rfl _ _
theorem cf_or (v : Value) (w : World) : (callFunc 61 #[v]).run Tryd.prog w = .ok (.enter 61 #[v]) w := enters_of Tryd.func61 (by kernel_rfl) rfl _ _
set_option maxRecDepth 100000 in
set_option maxHeartbeats 1000000 in
theorem clo_any {w : World} {hb bb g n p : Nat} (D : Nat → Nat) (h0 : w.cell? ⟨bb, 0, none⟩ = some (.pointer (some ⟨hb, 0, none⟩))) (h1 : w.cell? ⟨hb, 0, none⟩ = some (.slice (some ⟨g, 0, none⟩) n p)) (hs : ∀ k, k < n → w.cell? ⟨g, k * 4 + 2, none⟩ = some (.int .i64 (D k : Int)))
    (a b : Nat) (ha : a < n) (hb' : b < n) : Calls Tryd.prog 60 #[.int .i64 (a : Int), .int .i64 (b : Int), .pointer (some ⟨bb, 0, none⟩)] w fun e w' => e = .returned (.int .i64 (cfO D a b)) ∧ ∃ q o, w' = (w.drewN q).alloc o := by
  have ca := hs a ha
  have cb := hs b hb'
  have HC1 := fun W => compare_any (D a : Int) (D b : Int) W
  have HC2 := fun W => compare_any (a : Int) (b : Int) W
  unfold cfO
  obtain ⟨c, hc⟩ : ∃ c, Lib.compareInt (D a : Int) (D b : Int) = c := ⟨_, rfl⟩
  obtain ⟨d, hd⟩ : ∃ d, Lib.compareInt (a : Int) (b : Int) = d := ⟨_, rfl⟩
  rw [hc] at HC1 ⊢
  rw [hd] at HC2 ⊢
  obtain ⟨x, hx⟩ : ∃ x, D a = x := ⟨_, rfl⟩
  obtain ⟨y, hy⟩ : ∃ y, D b = y := ⟨_, rfl⟩
  rw [hx] at ca HC1
  rw [hy] at cb HC1
  have HH1 := hid HC1
  have HH2 := hid HC2
  have hbg := World.block_lt_of_cell? w _ ca
  have HOr := hid (fun W => or_any c d w.heap.size 2 W)
  obtain ⟨r, hr⟩ : ∃ r, (if c = 0 then d else c) = r := ⟨_, rfl⟩
  rw [hr] at HOr ⊢
  clear hs hc hd hx hy HC1 HC2 hr
  go_enter Tryd.func60, Tryd.ntmps60
  go_wp2
  go_region_law (first
    | (refine Kit.step_call1 rfl 61 (.tmp 26) 75 rfl (.slice (some ⟨w.heap.size, 0, none⟩) 2 2) (by first | with_reducible rfl | (simp [go_sem]; done) | rfl) (cf_or _ _) _ (HOr.out _ (by simp) (by simp)) ?_; rintro e w3 ⟨rfl, rfl⟩; refine ⟨_, rfl, ?_⟩)
    | (refine Kit.step_call2 rfl 62 (.tmp 13) (.tmp 21) 3 3 rfl (.int .i64 (x : Int)) (.int .i64 (y : Int)) (by first | with_reducible rfl | (simp [go_sem]; done) | rfl) (by first | with_reducible rfl | (simp [go_sem]; done) | rfl) (cf_cmp _ _ _) _ (HH1.out _) ?_; rintro e w3 ⟨rfl, rfl⟩; refine ⟨_, rfl, ?_⟩)
    | (refine Kit.step_call2 rfl 62 (.tmp 23) (.tmp 24) 3 3 rfl (.int .i64 (a : Int)) (.int .i64 (b : Int)) (by first | with_reducible rfl | (simp [go_sem]; done) | rfl) (by first | with_reducible rfl | (simp [go_sem]; done) | rfl) (cf_cmp _ _ _) _ (HH2.out _) ?_; rintro e w3 ⟨rfl, rfl⟩; refine ⟨_, rfl, ?_⟩))
  all_goals
    go_wp2
    go_ret
    exact ⟨rfl, _, _, rfl⟩
end Go.Proofs.YtahjnaoabfkpcaaDoor
namespace Go.Proofs.YtahjnaoabfkpcaaDoor
open Go Go.RowKit
open Kit (natVals)

theorem cmp_neg (x y : Int) : (Lib.compareInt x y < 0) ↔ x < y := by
  unfold Lib.compareInt
  split <;> (try split) <;> omega
theorem cmp_zero (x y : Int) : (Lib.compareInt x y = 0) ↔ x = y := by
  unfold Lib.compareInt
  split <;> (try split) <;> omega
theorem cf_lex (D : Nat → Nat) (a b : Nat) : (cfO D a b < 0) ↔ Hi.lex D a b := by
  unfold cfO Hi.lex
  by_cases h : Lib.compareInt (D a) (D b) = 0
  · rw [if_pos h, cmp_neg]
    rw [cmp_zero] at h
    omega
  · rw [if_neg h, cmp_neg]
    rw [cmp_zero] at h
    omega
/-- The numbers of n classes. -/
abbrev Cn (n : Nat) := { k : Nat // k < n }
def cfC (D : Nat → Nat) {n : Nat} (a b : Cn n) : Int := cfO D a.1 b.1
theorem lt_lex (D : Nat → Nat) {n : Nat} (a b : Cn n) : ltOf (cfC D) a b = true ↔ Hi.lex D a.1 b.1 := by
  unfold ltOf cfC
  rw [decide_eq_true_iff]
  exact cf_lex D a.1 b.1
theorem swo (D : Nat → Nat) (n : Nat) : Sort.SWO (ltOf (cfC D (n := n))) where
  irrefl x := by
    rw [Bool.eq_false_iff]
    intro h
    exact Hi.lex_irrefl D x.1 ((lt_lex D x x).1 h)
  trans x y z h1 h2 := (lt_lex D x z).2 (Hi.lex_trans D _ _ _ ((lt_lex D x y).1 h1) ((lt_lex D y z).1 h2))
  ntrans x y z h1 h2 := by
    rw [Bool.eq_false_iff] at *
    intro h
    have h := (lt_lex D x z).1 h
    have h1 : ¬ Hi.lex D x.1 y.1 := fun k => h1 ((lt_lex D x y).2 k)
    have h2 : ¬ Hi.lex D y.1 z.1 := fun k => h2 ((lt_lex D y z).2 k)
    unfold Hi.lex at *
    omega
theorem sortW_chg {α : Type} [Inhabited α] (enc : α → Value) {w : World} {blk : Nat} (m : Nat) (d : Array α) (os : Array Obj) : Chg (fun i => i = blk) w (sortWorld enc w blk 0 m d os) := by
  refine ⟨rfl, rfl, rfl, ?_, fun k hk hne => ?_⟩
  · unfold sortWorld
    rw [Sort.size_grow, size_putRow]
    show w.heap.size ≤ w.heap.size + _
    omega
  · unfold sortWorld
    rw [Sort.heap_grow_old _ _ (by rw [size_putRow]; exact hk)]
    unfold Sort.putRow Sort.mapBlock
    simp only [Array.getElem?_modify]
    rw [if_neg (fun e => hne e.symm)]
    rfl
theorem sortW_own {α : Type} [Inhabited α] (enc : α → Value) {w : World} {base blk n cap : Nat} {e : TypeId} {xs : List Value} (h : w.ownsRow base e 1 (.slice (some ⟨blk, 0, none⟩) n cap) n xs) (m : Nat) (d : Array α) (os : Array Obj) (hd : d.size = n) :
    (sortWorld enc w blk 0 m d os).ownsRow base e 1 (.slice (some ⟨blk, 0, none⟩) n cap) n (d.toList.map enc) := by
  refine ⟨by simp [hd], .inr ?_⟩
  rcases h.2 with ⟨h2, -⟩ | ⟨g', cap', cur, hv, hg, hh, h1, h2, h3, h4⟩
  · cases h2
  · obtain ⟨e1, -, rfl⟩ := Value.slice.inj hv
    obtain rfl : blk = g' := by simpa using e1
    have hlt := (Array.getElem?_eq_some_iff.1 hh).1
    refine ⟨blk, cap, Sort.putCells enc 0 d cur, rfl, hg, ?_, h1, h2, by simp [Sort.putCells, h3], ?_⟩
    · unfold sortWorld
      rw [Sort.heap_grow_old _ _ (by rw [size_putRow]; exact hlt)]
      unfold Sort.putRow Sort.mapBlock
      simp only [Array.getElem?_modify]
      rw [if_pos trivial]
      show Option.map _ w.heap[blk]? = _
      rw [hh]
      rfl
    · apply List.ext_getElem?
      intro k
      rw [List.getElem?_take, List.getElem?_map]
      by_cases hk : k < n * 1
      · rw [if_pos hk]
        have hk2 : k < d.size := by omega
        have hk3 : k < cur.size := by rw [h3]; omega
        rw [Array.getElem?_toList]
        unfold Sort.putCells
        rw [Array.getElem?_mapIdx, Array.getElem?_eq_getElem hk3, Option.map_some, if_pos ⟨by omega, by omega⟩, Array.getElem?_toList, Array.getElem?_eq_getElem hk2, Option.map_some, Nat.sub_zero, getElem!_pos d k hk2]
      · rw [if_neg hk, Array.getElem?_toList, Array.getElem?_eq_none (by omega)]
        rfl
theorem HM.setOd {w w1 : World} {base : Nat} {H : HV} (h : HM w base H) (hc : Chg (fun i => H.ov.ownBlock = some i) w w1) {l : List Nat} (ho : w1.ownsRow base 3 1 H.ov l.length (natVals l)) : HM w1 base { H with od := l } :=
  ⟨(hc.block _ h.hb_lt (own_unlike_box h.ord h.box (by decide))).trans h.box, h.map.keep (hc.block _ h.mb_lt (own_map h.ord h.map)), owns_chg h.cls hc (own_unlike h.cls h.ord (by decide)), ho,
   fun i hi => owns_chg (h.sub i hi) hc (fun j e e2 => h.apo i hi j e e2), h.ap, h.apo, h.lh, h.lm⟩
/-- Numbers of classes, out of a list of them. -/
def cnL {n : Nat} (O : List Nat) (h : ∀ x ∈ O, x < n) : List (Cn n) := O.pmap (fun k hk => ⟨k, hk⟩) h
theorem cnL_val {n : Nat} (O : List Nat) (h : ∀ x ∈ O, x < n) : (cnL O h).map (·.1) = O := by
  unfold cnL
  rw [List.map_pmap]
  exact List.pmap_eq_self.2 (fun _ _ => rfl)
def encC {n : Nat} (k : Cn n) : Value := .int .i64 (k.1 : Int)
theorem enc_vals {n : Nat} (l : List (Cn n)) : l.map encC = natVals (l.map (·.1)) := by
  unfold natVals
  rw [List.map_map]
  rfl
/-- What is sorted, is the order. -/
theorem sorted_ord {n : Nat} [Inhabited (Cn n)] {P D : Nat → Nat} (t : Hi.Tr n P D) {O : List Nat} (h : ∀ x ∈ O, x < n) (hnd : O.Nodup) (hall : ∀ x, x < n → x ∈ O) {d' : Array (Cn n)} (hp : Sort.PermIn 0 (cnL O h).toArray.size (cnL O h).toArray d') (hs : Sort.SortedIn (ltOf (cfC D)) 0 (cnL O h).toArray.size d') :
    d'.toList.map (·.1) = Hi.ordL n D ∧ d'.size = O.length := by
  have hsz : (cnL O h).toArray.size = O.length := by unfold cnL; simp
  obtain ⟨p1, -, p2⟩ := hp
  have e1 : (d'.extract 0 (cnL O h).toArray.size) = d' := by rw [← p1]; simp
  have e2 : ((cnL O h).toArray.extract 0 (cnL O h).toArray.size) = (cnL O h).toArray := by simp
  rw [e1, e2] at p2
  have p3 : (d'.toList.map (·.1)).Perm O := by
    have := p2.map (·.1)
    rwa [show (cnL O h).toArray.toList = cnL O h from rfl, cnL_val] at this
  refine ⟨Hi.ord_eq t ?_ (fun x => ⟨fun hx => h x (p3.mem_iff.1 hx), fun hx => p3.mem_iff.2 (hall x hx)⟩), by rw [p1, hsz]⟩
  have hnd' : (d'.toList.map (·.1)).Nodup := p3.nodup_iff.2 hnd
  rw [List.pairwise_iff_getElem]
  intro i j hi hj hij
  have hi' : i < d'.size := by simpa using hi
  have hj' : j < d'.size := by simpa using hj
  have h1 := hs i j (by omega) hij (by rw [← p1]; exact hj')
  rw [getElem!_pos d' i hi', getElem!_pos d' j hj', Bool.eq_false_iff] at h1
  have h2 : ¬ Hi.lex D d'[j].1 d'[i].1 := fun k => h1 ((lt_lex D _ _).2 k)
  have h3 : d'[i].1 ≠ d'[j].1 := by
    have := (List.pairwise_iff_getElem.1 hnd') i j hi hj hij
    simpa using this
  simp only [List.getElem_map, Array.getElem_toList]
  unfold Hi.lex at *
  omega
end Go.Proofs.YtahjnaoabfkpcaaDoor
namespace Go.Proofs.YtahjnaoabfkpcaaDoor
open Go Go.RowKit
open Kit (natVals)

theorem src_none1 (c : Nat) (w : World) : Src Tryd.prog 1 75 (.slice none 0 c) 0 [] w :=
  ⟨.inl ⟨_, Tryd.underlying75⟩, fun _ => rfl, rfl, rfl, rfl, fun u hu => by cases hu⟩
/-- An append of numbers that are read, as a step of a region that draws its order. -/
theorem step_ints {ops : Array Oper} {o : Oper} {a : Act} {w : World} {K : Act → World → Prop} {Q : Exit → Act → World → Prop} {E : Prop} (hgd : o.guard = none) (s x : Operand)
    (hop : o.op = Op.call { callee := Callee.builtin Builtin.append, args := #[s, x], argTypes := #[75, 75] })
    (B : Nat) (v : Value) (n : Nat) (xs : List Value) (hs : a.eval s = v) (hown : w.ownsRow B 3 1 v n xs) (hB : B ≤ w.heap.size)
    (xv : Value) (m : Nat) (news : List Value) (hx : a.eval x = xv) (hr : Kit.IsS 1 w xv m news) (h1 : ∀ u ∈ news, u.oneCell' = true) (hnm : n + m ≤ 10000000)
    (hK : ∀ v' w', w'.ownsRow B 3 1 v' (n + m) (xs ++ news) → w.grownBy w' v.ownBlock → (v'.ownBlock = v.ownBlock ∨ v'.ownBlock = some w.heap.size) → K (a.put o.dst v') w') :
    if Region.wanted o (yielded ops a.tmps) = true then Oper.wp Tryd.prog o a w K Q else E := by
  have hw : Region.wanted o (yielded ops a.tmps) = true := by simp [Region.wanted, hgd]
  rw [if_pos hw]
  obtain ⟨i0, hi, hz0, hz1, hz2⟩ := info_parts infoI
  have some' : ∀ ad c, xv = .slice (some ad) m c → (∀ j u, news[j]? = some u → w.cell? (ad.add j) = some u) → Oper.wp Tryd.prog o a w K Q := fun ad c he hc => by
    subst he
    obtain ⟨v', w', hr', h2, h3, -, h5⟩ := run_append_own_at (P := Tryd.prog) w B 75 o.type 3 i0 _ 1 8 Tryd.underlying75 hi hz0 hz1 hz2 rfl (by decide) v n xs hown ad m c news hr.1 hc h1 (by unfold maxLen; omega) (by omega) hB
    unfold Oper.wp execOp
    simp only [hop, resolve, invoke, builtin, Sem.run_bind, Sem.run_pure, Result.andThen_ok, List.map_toArray, List.map_cons, List.map_nil, hs, hx, hr']
    exact hK _ _ h2 h3 h5
  rcases hr.2.2 with ⟨h0, ad, c, he⟩ | ⟨b, ofs, c, he, -, -, hc⟩
  · subst h0
    have hn : news = [] := List.eq_nil_of_length_eq_zero (by simpa using hr.1)
    cases ad with
    | some ad => exact some' ad c he (fun j u hj => by rw [hn] at hj; simp at hj)
    | none =>
      subst hn he
      have hcap : ∃ ad' n' c', v = .slice ad' n' c' ∧ n' ≤ c' := by
        rcases hown.2 with ⟨h, -⟩ | ⟨g, cap, cur, h, -, -, h4, -⟩
        · exact ⟨none, 0, 0, h, Nat.le_refl _⟩
        · exact ⟨_, _, _, h, h4⟩
      obtain ⟨ad', n', c', he', hle⟩ := hcap
      have hr' := run_append_nothing (P := Tryd.prog) w 75 75 o.type 3 i0 Tryd.underlying75 hi ad' n' c' hle (.slice none 0 c) (by rw [hz1]; exact src_none1 c w)
      rw [← he'] at hr'
      unfold Oper.wp execOp
      simp only [hop, resolve, invoke, builtin, Sem.run_bind, Sem.run_pure, Result.andThen_ok, List.map_toArray, List.map_cons, List.map_nil, hs, hx, hr']
      exact hK _ _ (by simpa using hown) ⟨rfl, rfl, rfl, Nat.le_refl _, fun _ _ _ => rfl⟩ (.inl rfl)
  · exact some' _ c he (fun j u hj => by rw [Go.WideShapes.add_plain]; exact hc j u hj)
/-- Depths, of which the first j are written that stand under x. -/
def dj (n : Nat) (P d : Nat → Nat) (x j : Nat) : Nat → Nat := fun k => if k ∈ (Hi.ch n P x).take j then d x + 1 else d k
theorem dj_zero (n : Nat) (P d : Nat → Nat) (x : Nat) : dj n P d x 0 = d := by funext k; simp [dj]
theorem dj_all (n : Nat) (P d : Nat → Nat) (x : Nat) : dj n P d x (Hi.ch n P x).length = Hi.dn n P d x := by
  funext k
  unfold dj Hi.dn
  rw [List.take_length]
  by_cases h : 1 ≤ k ∧ k < n ∧ P k = x
  · rw [if_pos h, if_pos (Hi.mem_ch.2 h)]
  · rw [if_neg h, if_neg (fun e => h (Hi.mem_ch.1 e))]
/-- Where orderAll stands. -/
structure OaI (w : World) (base : Nat) (H : HV) (P : Nat → Nat) (bb : Nat) (O : List Nat) (d : Nat → Nat) (ov : Value) (W : World) : Prop where
  hm : HM W base { H with ov := ov, od := O, dp := d }
  bx : BX W bb #[.pointer (some ⟨H.hb, 0, none⟩)] 35
  bel : Below base w W
  sz : w.heap.size ≤ W.heap.size
  sb : ∀ k, k < H.n → H.sb k = Hi.ch H.n P k
  le : H.n ≤ 72
section
variable {w W W' : World} {base bb : Nat} {H : HV} {P : Nat → Nat} {O : List Nat} {d : Nat → Nat} {ov : Value}
theorem OaI.below (h : OaI w base H P bb O d ov W) (hb : Below W.heap.size W W') (hw : base ≤ w.heap.size) : OaI w base H P bb O d ov W' :=
  ⟨h.hm.below hb, h.bx.below hb, belows h.bel hb (Nat.le_trans hw h.sz), Nat.le_trans h.sz hb.size, h.sb, h.le⟩
/-- A depth is written. -/
theorem OaI.depth (h : OaI w base H P bb O d ov W) {k g p : Nat} (x : Nat) (hk : k < H.n) (hv : H.cv = .slice (some ⟨g, 0, none⟩) H.n p) (hw : base ≤ w.heap.size) :
    W.frozen? ⟨g, k * 4 + 2, none⟩ = false ∧ OaI w base H P bb O (upd d k x) ov (W.setCell ⟨g, k * 4 + 2, none⟩ (.int .i64 (x : Int))) := by
  have hgb : H.cv.ownBlock = some g := by rw [hv]; rfl
  have hM := h.hm.setRow (k := k) (i := 2) (u := .int .i64 (x : Int)) (su := H.su) (dp := upd d k x) hk (by omega) hv (by unfold HV.row; dsimp only; rw [upd_same]; rfl) (fun j hj => ⟨rfl, upd_other _ _ hj⟩)
  have hS : Chg (fun i => i = g) W (W.setCell ⟨g, k * 4 + 2, none⟩ (.int .i64 (x : Int))) := (Chg.refl (fun i => i = g) W).set (p := ⟨g, k * 4 + 2, none⟩) (.inl rfl) _
  refine ⟨own_frz h.hm.cls hgb _, hM, h.bx.chg hS (fun e => ?_), h.bel.trans (hS.to_below (fun j e => ?_) (Nat.le_trans hw h.sz)), Nat.le_trans h.sz hS.size, h.sb, h.le⟩
  · exact own_unlike_box h.hm.cls h.bx (by decide) (e ▸ hgb)
  · exact Kit.own_base h.hm.cls j (e ▸ hgb)
/-- Those under a class go behind the others. -/
theorem OaI.app (h : OaI w base H P bb O d ov W) {w2 w3 : World} {u : Value} {l : List Nat} (hb : Below W.heap.size W w2) (hg : w2.grownBy w3 ov.ownBlock) (hu : u.ownBlock = ov.ownBlock ∨ u.ownBlock = some w2.heap.size)
    (ho : w3.ownsRow base 3 1 u (O.length + l.length) (natVals O ++ natVals l)) (hw : base ≤ w.heap.size) :
    (∀ p : Addr, p.block < W.heap.size → ov.ownBlock ≠ some p.block → w3.cell? p = W.cell? p) ∧ w3.cell? ⟨bb, 0, none⟩ = some (.pointer (some ⟨H.hb, 0, none⟩)) ∧ w3.cell? ⟨H.hb, 2, none⟩ = some ov ∧ w3.frozen? ⟨H.hb, 2, none⟩ = false ∧ OaI w base H P bb (O ++ l) d u (w3.setCell ⟨H.hb, 2, none⟩ u) := by
  have hc := (Chg.of_below (S := fun i => ov.ownBlock = some i) hb).grown hg (fun j e => .inl e)
  have hbx : BX w3 H.hb #[H.cv, .map (some H.mb), ov] 77 := BX.chg (w := W) h.hm.box hc (own_unlike_box h.hm.ord h.hm.box (by decide))
  have hb3 := h.bx.chg hc (own_unlike_box h.hm.ord h.bx (by decide))
  have hA := h.hm.setOv hc (u := u) (l := O ++ l) (by rw [List.length_append]; unfold natVals at ho ⊢; rw [List.map_append]; exact ho) (by
    rcases hu with e | e
    · exact .inl e
    · exact .inr ⟨_, hb.size, e⟩)
  have hS : Chg (fun i => ov.ownBlock = some i ∨ i = H.hb) W (w3.setCell ⟨H.hb, 2, none⟩ u) := (hc.mono (T := fun i => ov.ownBlock = some i ∨ i = H.hb) (fun i _ e => .inl e)).set (.inl (.inr rfl)) _
  refine ⟨fun p hp hne => hc.cell hp hne, hb3.cell 0, hbx.cell 2, hbx.frozen 2, hA, h.bx.chg hS ?_, h.bel.trans (hS.to_below (fun j e => ?_) (Nat.le_trans hw h.sz)), Nat.le_trans h.sz hS.size, h.sb, h.le⟩
  · rintro (e | rfl)
    · exact own_unlike_box h.hm.ord h.bx (by decide) e
    · have h1 := h.hm.box
      have h2 := h.bx
      unfold BX at h2
      dsimp only at h1
      rw [h2] at h1
      simp at h1
  · rcases e with e | rfl
    · exact Kit.own_base h.hm.ord j e
    · exact h.hm.lh
end
end Go.Proofs.YtahjnaoabfkpcaaDoor
