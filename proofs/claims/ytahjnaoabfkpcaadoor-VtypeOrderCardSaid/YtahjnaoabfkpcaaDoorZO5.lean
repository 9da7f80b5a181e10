/- VtypeOrder is true for all lines and types, as long as the two tables of unicode/utf8 hold what the text of the program lays there (the card ties them). -/
import Derived.Test.YtahjnaoabfkpcaaDoorZO4
import Derived.Test.YtahjnaoabfkpcaaDoorRows
import Derived.ChangeSlices
namespace Go.Proofs.YtahjnaoabfkpcaaDoor
open Go Go.RowKit
open Ty (bl mk br T)
def tyL (t : T) : List Value := [.int .i64 t.k, .string t.n]
/-- A list of types in memory. -/
def TyS (w : World) (v : Value) (l : List T) : Prop := Kit.IsS 2 w v l.length (l.flatMap tyL)
theorem TyS.below {w w' : World} {v : Value} {l : List T} (h : TyS w v l) (hb : Below w.heap.size w w') : TyS w' v l := Kit.IsS.below h hb (Nat.le_refl _)
theorem TyS.at {w : World} {v : Value} {l : List T} (h : TyS w v l) {k : Nat} {x : T} (hx : l[k]? = some x) : ∃ b o p, v = .slice (some ⟨b, o, none⟩) l.length p ∧ b < w.heap.size ∧ w.cell? ⟨b, o + k * 2, none⟩ = some (.int .i64 x.k) ∧ w.cell? ⟨b, o + k * 2 + 1, none⟩ = some (.string x.n) := by
  have hk : k < l.length := (List.getElem?_eq_some_iff.1 hx).1
  obtain ⟨b, o, p, rfl, -, hb, hc⟩ := Kit.IsS.some h (by omega)
  refine ⟨b, o, p, rfl, hb, ?_, ?_⟩
  · exact hc (k * 2) _ ((Kit.flat_at (f := tyL) (s := 2) (fun _ => rfl) hx 0 (by omega)).trans rfl)
  · have := hc (k * 2 + 1) _ ((Kit.flat_at (f := tyL) (s := 2) (fun _ => rfl) hx 1 (by omega)).trans rfl)
    rwa [← Nat.add_assoc] at this
def cn (l : List T) (i : Nat) : Nat := ((l.take i).filter (fun t => decide (t.k = 2))).length
set_option maxRecDepth 100000
set_option maxHeartbeats 2000000
end Go.Proofs.YtahjnaoabfkpcaaDoor
namespace Go.Proofs.YtahjnaoabfkpcaaDoor
open Go Go.RowKit
open Ty (bl mk br T)
set_option maxRecDepth 100000
set_option maxHeartbeats 2000000
theorem both_yes {w : World} {lv : Value} {l : List Hi.Ln} (hl : Kit.IsS 2 w lv l.length (l.flatMap lnL)) (hs : ∀ x ∈ l, x.1.size ≤ maxLen ∧ x.2.size ≤ maxLen) (he : Hi.err l = 0) : Calls Tryd.prog 16 #[lv] w fun e w' =>
    ∃ H D rb, e = .returned (.tuple #[.pointer (some ⟨H.hb, 0, none⟩), .pointer (some ⟨rb, 0, none⟩), .bool true]) ∧ Below w.heap.size w w' ∧ HM w' w.heap.size H ∧ HOk H (Hi.sup (Hi.bl ++ l)) D ∧ H.names = Hi.nms (Hi.bl ++ l) ∧ H.nm = Hi.nmf (Hi.bl ++ l) ∧ H.n = 8 + l.length := by
  have H1 := hid (New_any hl hs)
  have H2 := hid (fun W (hW : Below w.heap.size w W) => rNew_any (hl.below hW (Nat.le_refl _)))
  unfold NewP at H1
  unfold RNewP at H2
  rw [he] at H1 H2
  clear hl hs he
  go_enter Tryd.func16, Tryd.ntmps16
  go_wp2_with (first | (go_at_call 30; go_loud (refine H1.out.mono ?_; rintro e w1 ⟨v1, rfl, hb1, -, h1⟩; obtain ⟨H, D, rfl, hm, ok, hn, hnm, hnf⟩ := h1 rfl; have HB1 := hid hb1; have HMM := hid hm; have HO := hid ok; have HNN := hid hnm; have HNF := hid hnf; have HNL := hid hn; clear hb1 h1 hm ok hnm hnf hn)) | (go_at_call 31; go_loud (refine (H2.out _ HB1.out).mono ?_; rintro e w2 ⟨v2, rfl, hb2, -, h2⟩; obtain ⟨rb, D2, rfl, -, -⟩ := h2 (by first | rfl | trivial); have HB2 := hid hb2; clear hb2 h2)))
  refine bodyPost_ret (v := .tuple #[.pointer (some ⟨H.hb, 0, none⟩), .pointer (some ⟨rb, 0, none⟩), .bool true]) (by simp [results, Tryd.results16, go_sem]) rfl ?_
  exact ⟨H, D, rb, rfl, belows HB1.out HB2.out HB1.out.size, HMM.out.below HB2.out, HO.out, HNN.out, HNF.out, HNL.out⟩
theorem both_no {w : World} {lv : Value} {l : List Hi.Ln} (hl : Kit.IsS 2 w lv l.length (l.flatMap lnL)) (hs : ∀ x ∈ l, x.1.size ≤ maxLen ∧ x.2.size ≤ maxLen) (he : Hi.err l ≠ 0) : Calls Tryd.prog 16 #[lv] w fun e w' =>
    ∃ u v, e = .returned (.tuple #[u, v, .bool false]) ∧ Below w.heap.size w w' := by
  have H1 := hid (New_any hl hs)
  have H2 := hid (fun W (hW : Below w.heap.size w W) => rNew_any (hl.below hW (Nat.le_refl _)))
  unfold NewP at H1
  unfold RNewP at H2
  obtain ⟨k, hk⟩ : ∃ k, Hi.err l = k := ⟨_, rfl⟩
  rw [hk] at H1 H2 he
  have hk2 : (k == 0) = false := by simpa using he
  have HE := hid he
  clear hl hs he hk
  go_enter Tryd.func16, Tryd.ntmps16
  go_wp2_with (first | (go_at_call 30; go_loud (refine H1.out.mono ?_; rintro e w1 ⟨v1, rfl, hb1, h1, -⟩; obtain rfl := h1 HE.out; have HB1 := hid hb1; clear hb1 h1)) | (go_at_call 31; go_loud (refine (H2.out _ HB1.out).mono ?_; rintro e w2 ⟨v2, rfl, hb2, h2, -⟩; obtain rfl := h2 HE.out; have HB2 := hid hb2; clear hb2 h2)))
  refine bodyPost_ret (v := .tuple #[.pointer none, .pointer none, .bool false]) (by simp [results, Tryd.results16, go_sem]) rfl ?_
  exact ⟨_, _, rfl, belows HB1.out HB2.out HB1.out.size⟩
theorem live1_any (s : ByteArray) (w : World) : Calls Tryd.prog 29 #[.string s] w fun e w' => e = .returned (.agg #[.int .i64 4, .string s]) ∧ Below w.heap.size w w' := by
  go_enter Tryd.func29, Tryd.ntmps29
  go_wp2
  exact bodyPost_ret (v := .agg #[.int .i64 4, .string s]) (by simp [results, Tryd.results29, go_sem]) rfl ⟨rfl, (by repeat' first | with_reducible exact Below.refl _ _ | with_reducible assumption | with_reducible refine belows_drewN ?_ _ | with_reducible refine Below.drew ?_ | with_reducible refine Below.setCell ?_ ?_ _ | with_reducible refine Below.alloc ?_ ?_ _ | omega | (simp; done) | (simp; omega))⟩
/-- live's lines. -/
def lv3 : List Hi.Ln := [(⟨#[67]⟩, Hi.bO), (⟨#[65]⟩, ⟨#[67]⟩), (⟨#[66]⟩, ⟨#[67]⟩)]
def d3 : Nat → Nat := fun k => match k with | 0 => 0 | 1 => 1 | 8 => 1 | _ => 2
theorem tr3 : Hi.Tr 11 (Hi.sup (Hi.bl ++ lv3)) d3 := by
  refine ⟨by omega, fun k _ _ => Hi.sup_lt _ (by decide) k, rfl, fun k h1 hk => ?_⟩
  match k, h1, hk with
  | 1, _, _ | 2, _, _ | 3, _, _ | 4, _, _ | 5, _, _ | 6, _, _ | 7, _, _ | 8, _, _ | 9, _, _ | 10, _, _ => decide
theorem err3 : Hi.err lv3 = 0 := by
  refine err_ok (by decide) (by decide) (fun k x h1 hx => ?_) ⟨d3, tr3⟩
  have hk : k < 11 := (List.getElem?_eq_some_iff.1 hx).1
  match k, h1, hk with
  | 1, _, _ | 2, _, _ | 3, _, _ | 4, _, _ | 5, _, _ | 6, _, _ | 7, _, _ | 8, _, _ | 9, _, _ | 10, _, _ => cases hx; decide
theorem und3 {D : Nat → Nat} (t : Hi.Tr 11 (Hi.sup (Hi.bl ++ lv3)) D) {a b : Nat} (ha : a < 11) (hb : b < 11) : Hi.und (Hi.sup (Hi.bl ++ lv3)) D a b = Hi.und (Hi.sup (Hi.bl ++ lv3)) d3 a b := by
  have e1 := tr3.one t (d3 a) a ha rfl
  have e2 := tr3.one t (d3 b) b hb rfl
  unfold Hi.und
  rw [e1, e2]
theorem cm3 {D : Nat → Nat} (t : Hi.Tr 11 (Hi.sup (Hi.bl ++ lv3)) D) {a b : Nat} (ha : a < 11) (hb : b < 11) : Hi.cm (Hi.sup (Hi.bl ++ lv3)) D a b = Hi.cm (Hi.sup (Hi.bl ++ lv3)) d3 a b := by
  have e1 := tr3.one t (d3 a) a ha rfl
  have e2 := tr3.one t (d3 b) b hb rfl
  unfold Hi.cm
  rw [e1, e2]
def I3 (s : ByteArray) : Option Nat := Hi.idx s (Hi.nms (Hi.bl ++ lv3))
def tA : T := ⟨4, ⟨#[65]⟩⟩
def tB : T := ⟨4, ⟨#[66]⟩⟩
def tC : T := ⟨4, ⟨#[67]⟩⟩
def aA : T := ⟨4, ⟨#[91, 76, 65, 59]⟩⟩
def aB : T := ⟨4, ⟨#[91, 76, 66, 59]⟩⟩
theorem i3_A : I3 tA.n = some 9 := by decide
theorem i3_B : I3 tB.n = some 10 := by decide
theorem i3_C : I3 tC.n = some 8 := by decide
theorem i3_a : I3 aA.n = none := by decide
theorem i3_b : I3 aB.n = none := by decide
theorem e3_a : Ty.elP aA = tA := rfl
theorem e3_b : Ty.elP aB = tB := rfl
theorem v3_a : Ty.val I3 aA = true := by decide
theorem v3_b : Ty.val I3 aB = true := by decide
theorem fit3_1 (U : Nat → Nat → Bool) : Ty.Fit I3 U tA tC = U 9 8 := by
  have h1 : Ty.val I3 tA = true := by decide
  have h2 : Ty.val I3 tC = true := by decide
  have h3 : Ty.fit I3 U tA tC = U 9 8 := by
    unfold Ty.fit Ty.fitF
    rw [if_neg (by decide), if_neg (by decide), if_neg (by decide), if_pos (by decide)]
    unfold Ty.refF
    rw [i3_A, i3_C]
  unfold Ty.Fit
  rw [h1, h2, h3]; rfl
theorem fit3_2 (U : Nat → Nat → Bool) : Ty.Fit I3 U tC tA = U 8 9 := by
  have h1 : Ty.val I3 tA = true := by decide
  have h2 : Ty.val I3 tC = true := by decide
  have h3 : Ty.fit I3 U tC tA = U 8 9 := by
    unfold Ty.fit Ty.fitF
    rw [if_neg (by decide), if_neg (by decide), if_neg (by decide), if_pos (by decide)]
    unfold Ty.refF
    rw [i3_A, i3_C]
  unfold Ty.Fit
  rw [h1, h2, h3]; rfl
theorem live_any (w : World) : Calls Tryd.prog 11 #[] w fun e w' => e = .returned (.bool true) ∧ Below w.heap.size w w' := by
  have hl0 : Kit.IsS 2 (w.alloc (.cells (lv3.flatMap lnL).toArray 59)) (.slice (some ⟨w.heap.size, 0, none⟩) 3 3) lv3.length (lv3.flatMap lnL) :=
    ⟨rfl, by decide, .inr ⟨w.heap.size, 0, 3, rfl, by decide, by simp, fun i u hi => by rw [Nat.zero_add, BX.cell (BX.new w _ _)]; simpa using hi⟩⟩
  have HN := hid (both_yes hl0 (by intro x hx; have : x.1.size ≤ 100 ∧ x.2.size ≤ 100 := by revert x; decide
                                   unfold maxLen; omega) err3)
  clear hl0
  have hb0 : Below w.heap.size w (w.alloc (.cells (lv3.flatMap lnL).toArray 59)) := (Below.refl _ _).alloc (Nat.le_refl _) _
  have HB0 := hid hb0
  obtain ⟨W0, hW0⟩ : ∃ W0, W0 = w.alloc (.cells (lv3.flatMap lnL).toArray 59) := ⟨_, rfl⟩
  have HW0 := hid hW0
  rw [← hW0] at HN HB0
  clear hW0 hb0
  go_enter Tryd.func11, Tryd.ntmps11
  go_wp2_with fail
  change Calls _ _ _ (w.alloc (.cells (lv3.flatMap lnL).toArray 59)) _
  rw [← HW0.out]
  refine HN.out.mono ?_
  rintro e w1 ⟨H, D, rb, rfl, hb1, hm, ok, hnm, hnf, hn⟩
  have hB1 := belows HB0.out hb1 HB0.out.size
  have hq := hm.hq ok
  have hj := hm.hj ok
  have tr := ok.tr
  have hn11 : H.n = 11 := hn
  rw [hn11] at tr
  rw [hnm] at hq hj
  rw [hnf] at hj
  change HQ w1 _ I3 _ at hq
  change HJ w1 _ I3 _ _ at hj
  have hsA : tA.n.size ≤ maxLen := by unfold maxLen; decide
  have hsB : tB.n.size ≤ maxLen := by unfold maxLen; decide
  have hsC : tC.n.size ≤ maxLen := by unfold maxLen; decide
  have hsa : aA.n.size ≤ maxLen := by unfold maxLen; decide
  have hsb : aB.n.size ≤ maxLen := by unfold maxLen; decide
  have HF1 := hid (fun X hX => Fits_any hq hsA hsC X hX)
  have HF2 := hid (fun X hX => Fits_any hq hsC hsA X hX)
  rw [fit3_1, und3 tr (by omega) (by omega), show Hi.und (Hi.sup (Hi.bl ++ lv3)) d3 9 8 = true by decide] at HF1
  rw [fit3_2, und3 tr (by omega) (by omega), show Hi.und (Hi.sup (Hi.bl ++ lv3)) d3 8 9 = false by decide] at HF2
  have hcm : Hi.cm (Hi.sup (Hi.bl ++ lv3)) D 9 10 = 8 := by
    rw [cm3 tr (by omega) (by omega)]
    decide
  have HJC : ∀ X, Below w1.heap.size w1 X → Calls Tryd.prog 52 #[.pointer (some ⟨H.hb, 0, none⟩), tyA tA, tyA tB] X fun e w' => e = .returned (tyA tC) ∧ Below X.heap.size X w' := fun X hX => by
    have := joinC_any hj hsA hsB i3_A i3_B X hX
    rw [hcm, show Hi.nmf (Hi.bl ++ lv3) 8 = ⟨#[67]⟩ from rfl] at this
    exact this
  have HJ1 : ∀ X, Below w1.heap.size w1 X → Calls Tryd.prog 35 #[.pointer (some ⟨H.hb, 0, none⟩), tyA (Ty.elP aA), tyA (Ty.elP aB)] X fun e w' => e = .returned (tyA tC) ∧ Below X.heap.size X w' := fun X hX => by
    rw [e3_a, e3_b]
    exact join4_any (by decide) rfl rfl HJC X hX
  have HJ2 := hid (fun X hX => Join_any hj.find hsa hsb v3_a v3_b (fun X hX => join4_any (a := aA) (b := aB) (by decide) rfl rfl (fun X hX => joinA_any hj.find hsa hsb i3_a i3_b rfl rfl (by decide) HJ1 X hX) X hX) X hX)
  rw [show Ty.arP tC = ⟨4, ⟨#[91, 76, 67, 59]⟩⟩ from rfl] at HJ2
  have HT := hid (fun X => text_any tA X)
  rw [show Ty.tx tA = ⟨#[65]⟩ from rfl] at HT
  unfold tyA at HF1 HF2 HJ2 HT
  unfold tA tC at HF1 HF2
  unfold aA aB at HJ2
  unfold tA at HT
  dsimp only at HF1 HF2 HJ2 HT
  have HB1 := hid hB1
  obtain ⟨hb, hhb⟩ : ∃ hb, H.hb = hb := ⟨_, rfl⟩
  rw [hhb] at HF1 HF2 HJ2 ⊢
  have HB := hid (Below.refl w1.heap.size w1)
  clear hB1 hm ok hn hnm hnf hn11 tr hb1 hhb HN HB0 HW0 hq hj hsA hsB hsC hsa hsb hcm HJC HJ1
  go_wp2_with (first | (go_at_call 29; go_loud (refine (live1_any _ _).mono ?_; rintro e W ⟨rfl, hb⟩; have HB := hid (belows HB.out hb HB.out.size); clear hb)) | (go_at_call 19; go_loud (refine (HJ2.out _ HB.out).mono ?_; rintro e W ⟨rfl, hb⟩; have HB := hid (belows HB.out hb HB.out.size); clear hb)) | (go_at_call 18; (with_reducible refine (HF1.out _ HB.out).mono ?_); rintro e W ⟨rfl, hb⟩; have HB := hid (belows HB.out hb HB.out.size); clear hb) | (go_at_call 18; (with_reducible refine (HF2.out _ HB.out).mono ?_); rintro e W ⟨rfl, hb⟩; have HB := hid (belows HB.out hb HB.out.size); clear hb) | (go_at_call 12; go_loud (refine (HT.out _).mono ?_; rintro e W ⟨rfl, hb⟩; have HB := hid (belows HB.out hb HB.out.size); clear hb)))
  go_ret
  exact ⟨by simp, belows HB1.out HB.out HB1.out.size⟩
end Go.Proofs.YtahjnaoabfkpcaaDoor
namespace Go.Proofs.YtahjnaoabfkpcaaDoor
open Go Go.RowKit
open Ty (bl mk br T)
namespace Ty
/-- What is asked of the classes. -/
structure Ord (I : ByteArray → Option Nat) (U : Nat → Nat → Bool) : Prop where
  trans : ∀ {s t u : ByteArray} {x y z : Nat}, I s = some x → I t = some y → I u = some z → U x y = true → U y z = true → U x z = true
  anti : ∀ {s t : ByteArray} {x y : Nat}, I s = some x → I t = some y → U x y = true → U y x = true → x = y
  inj : ∀ {s t : ByteArray} {x : Nat}, I s = some x → I t = some x → s = t
  root : ∀ {s : ByteArray} {z : Nat}, I s = some z → U 0 z = true → z = 0
section
variable {I : ByteArray → Option Nat} {U : Nat → Nat → Bool}
theorem refF_iff {f : T → T → Bool} {a b : T} : refF I U f a b = true ↔ (∃ x y, I a.n = some x ∧ I b.n = some y ∧ U x y = true) ∨ (I a.n = none ∧ I b.n = some 0) ∨ (I a.n = none ∧ I b.n = none ∧ (elP a).k = 4 ∧ (elP b).k = 4 ∧ f (elP a) (elP b) = true) := by
  unfold refF
  cases h1 : I a.n with
  | some x =>
    cases h2 : I b.n with
    | some y => simp
    | none => simp
  | none =>
    cases h2 : I b.n with
    | some y => simp
    | none =>
      dsimp only
      by_cases hk : (elP a).k = 4 ∧ (elP b).k = 4
      · rw [if_pos hk]
        constructor
        · exact fun h => .inr (.inr ⟨rfl, rfl, hk.1, hk.2, h⟩)
        · rintro (⟨x, y, h, -⟩ | ⟨-, h⟩ | ⟨-, -, -, -, h⟩)
          · cases h
          · cases h
          · exact h
      · rw [if_neg hk]
        constructor
        · intro h; cases h
        · rintro (⟨x, y, h, -⟩ | ⟨-, h⟩ | ⟨-, -, p, q, -⟩)
          · cases h
          · cases h
          · exact absurd ⟨p, q⟩ hk
theorem fitF_iff {m : Nat} {a b : T} : fitF I U (m + 1) a b = true ↔ b.k = 0 ∨ (a.k = b.k ∧ a.n = b.n) ∨ (b.k = 4 ∧ (a.k = 3 ∨ (a.k = 4 ∧ refF I U (fitF I U m) a b = true))) := by
  unfold fitF
  by_cases h1 : b.k = 0 ∨ (a.k = b.k ∧ a.n = b.n)
  · rw [if_pos h1]
    refine ⟨fun _ => ?_, fun _ => rfl⟩
    rcases h1 with h | h
    · exact .inl h
    · exact .inr (.inl h)
  · rw [if_neg h1]
    by_cases h2 : b.k = 4
    · rw [if_neg (fun h => h h2)]
      by_cases h3 : a.k = 3
      · rw [if_pos h3]
        exact ⟨fun _ => .inr (.inr ⟨h2, .inl h3⟩), fun _ => rfl⟩
      · rw [if_neg h3]
        by_cases h4 : a.k = 4
        · rw [if_pos h4]
          constructor
          · exact fun h => .inr (.inr ⟨h2, .inr ⟨h4, h⟩⟩)
          · rintro (h | h | ⟨-, h | ⟨-, h⟩⟩)
            · exact absurd (.inl h) h1
            · exact absurd (.inr h) h1
            · exact absurd h h3
            · exact h
        · rw [if_neg h4]
          constructor
          · intro h; cases h
          · rintro (h | h | ⟨-, h | ⟨h, -⟩⟩)
            · exact absurd (.inl h) h1
            · exact absurd (.inr h) h1
            · exact absurd h h3
            · exact absurd h h4
    · rw [if_pos h2]
      constructor
      · intro h; cases h
      · rintro (h | h | ⟨h, -⟩)
        · exact absurd (.inl h) h1
        · exact absurd (.inr h) h1
        · exact absurd h h2
theorem t_eq {a b : T} (h : a.k = b.k ∧ a.n = b.n) : a = b := by
  cases a; cases b
  obtain ⟨h1, h2⟩ := h
  dsimp only at h1 h2
  rw [h1, h2]
theorem fitF_trans (o : Ord I U) : ∀ (m : Nat) {a b c : T}, fitF I U m a b = true → fitF I U m b c = true → fitF I U m a c = true
  | 0, _, _, _, h, _ => by cases h
  | m + 1, a, b, c, h1, h2 => by
    rcases fitF_iff.1 h2 with hc | hbc | ⟨hc4, hb⟩
    · exact fitF_iff.2 (.inl hc)
    · rw [← t_eq hbc]; exact h1
    · rcases fitF_iff.1 h1 with hb0 | hab | ⟨hb4, ha⟩
      · rcases hb with h | ⟨h, -⟩ <;> omega
      · rw [t_eq hab]; exact h2
      · rcases hb with h | ⟨-, hbc⟩
        · omega
        · refine fitF_iff.2 (.inr (.inr ⟨hc4, ?_⟩))
          rcases ha with h3 | ⟨h4, hab⟩
          · exact .inl h3
          · refine .inr ⟨h4, refF_iff.2 ?_⟩
            rcases refF_iff.1 hab with ⟨x, y, e1, e2, u1⟩ | ⟨e1, e2⟩ | ⟨e1, e2, k1, k2, f1⟩
            · rcases refF_iff.1 hbc with ⟨y', z, e3, e4, u2⟩ | ⟨e3, -⟩ | ⟨e3, -⟩
              · rw [e2] at e3
                obtain rfl := Option.some.inj e3
                exact .inl ⟨x, z, e1, e4, o.trans e1 e2 e4 u1 u2⟩
              · rw [e2] at e3; cases e3
              · rw [e2] at e3; cases e3
            · rcases refF_iff.1 hbc with ⟨y', z, e3, e4, u2⟩ | ⟨e3, -⟩ | ⟨e3, -⟩
              · rw [e2] at e3
                obtain rfl := Option.some.inj e3
                obtain rfl := o.root e4 u2
                exact .inr (.inl ⟨e1, e4⟩)
              · rw [e2] at e3; cases e3
              · rw [e2] at e3; cases e3
            · rcases refF_iff.1 hbc with ⟨y', z, e3, e4, u2⟩ | ⟨e3, e4⟩ | ⟨e3, e4, k3, k4, f2⟩
              · rw [e2] at e3; cases e3
              · exact .inr (.inl ⟨e1, e4⟩)
              · exact .inr (.inr ⟨e1, e4, k1, k4, fitF_trans o m f1 f2⟩)
theorem fitF_anti (o : Ord I U) : ∀ (m : Nat) {a b : T}, (a.k = 0 → a.n = mk []) → (b.k = 0 → b.n = mk []) → fitF I U m a b = true → fitF I U m b a = true → a = b
  | 0, _, _, _, _, h, _ => by cases h
  | m + 1, a, b, hA, hB, h1, h2 => by
    rcases fitF_iff.1 h1 with hb0 | hab | ⟨hb4, ha⟩
    · rcases fitF_iff.1 h2 with ha0 | hba | ⟨ha4, h | ⟨h, -⟩⟩
      · exact t_eq ⟨by omega, by rw [hA ha0, hB hb0]⟩
      · exact (t_eq hba).symm
      · omega
      · omega
    · exact t_eq hab
    · rcases fitF_iff.1 h2 with ha0 | hba | ⟨ha4, hb⟩
      · rcases ha with h | ⟨h, -⟩ <;> omega
      · exact (t_eq hba).symm
      · rcases ha with h | ⟨-, hab⟩
        · omega
        · rcases hb with h | ⟨-, hba⟩
          · omega
          · refine t_eq ⟨by omega, ?_⟩
            rcases refF_iff.1 hab with ⟨x, y, e1, e2, u1⟩ | ⟨e1, e2⟩ | ⟨e1, e2, k1, k2, f1⟩
            · rcases refF_iff.1 hba with ⟨y', x', e3, e4, u2⟩ | ⟨e3, -⟩ | ⟨e3, -⟩
              · rw [e2] at e3
                obtain rfl := Option.some.inj e3
                rw [e1] at e4
                obtain rfl := Option.some.inj e4
                obtain rfl := o.anti e1 e2 u1 u2
                exact o.inj e1 e2
              · rw [e2] at e3; cases e3
              · rw [e2] at e3; cases e3
            · rcases refF_iff.1 hba with ⟨y', x', e3, e4, u2⟩ | ⟨e3, -⟩ | ⟨e3, -⟩
              · rw [e1] at e4; cases e4
              · rw [e2] at e3; cases e3
              · rw [e2] at e3; cases e3
            · rcases refF_iff.1 hba with ⟨y', x', e3, e4, u2⟩ | ⟨e3, e4⟩ | ⟨e3, e4, k3, k4, f2⟩
              · rw [e2] at e3; cases e3
              · rw [e1] at e4; cases e4
              · exact elP_one k1 k2 (fitF_anti o m (fun h => by omega) (fun h => by omega) f1 f2)
theorem fit_trans (o : Ord I U) {a b c : T} (h1 : fit I U a b = true) (h2 : fit I U b c = true) : fit I U a c = true := by
  have e1 := fit_is (I := I) (U := U) (a := a) (b := b) (m := a.n.size + b.n.size + 1) (by omega)
  have e2 := fit_is (I := I) (U := U) (a := b) (b := c) (m := a.n.size + b.n.size + 1) (by omega)
  have e3 := fit_is (I := I) (U := U) (a := a) (b := c) (m := a.n.size + b.n.size + 1) (by omega)
  rw [← e3]
  exact fitF_trans o _ (e1.trans h1) (e2.trans h2)
theorem fit_anti (o : Ord I U) {a b : T} (hA : a.k = 0 → a.n = mk []) (hB : b.k = 0 → b.n = mk []) (h1 : fit I U a b = true) (h2 : fit I U b a = true) : a = b := by
  have e1 := fit_is (I := I) (U := U) (a := a) (b := b) (m := a.n.size + b.n.size + 1) (by omega)
  have e2 := fit_is (I := I) (U := U) (a := b) (b := a) (m := a.n.size + b.n.size + 1) (by omega)
  exact fitF_anti o _ hA hB (e1.trans h1) (e2.trans h2)
theorem fit_refl {a : T} : fit I U a a = true := fitF_iff.2 (.inr (.inl ⟨rfl, rfl⟩))
theorem fit_top {a : T} : fit I U a top = true := fitF_iff.2 (.inl rfl)
theorem val_top : val I top = true := by unfold val; simp [top]
theorem val_name {a : T} (h : val I a = true) (hk : a.k = 0) : a.n = mk [] := by
  unfold val at h
  rw [if_pos (.inl hk)] at h
  exact of_decide_eq_true h
end
end Ty
theorem ord_of {l : List Hi.Ln} {D : Nat → Nat} (ht : Hi.Tr (8 + l.length) (Hi.sup (Hi.bl ++ l)) D) : Ty.Ord (fun s => Hi.idx s (Hi.nms (Hi.bl ++ l))) (Hi.und (Hi.sup (Hi.bl ++ l)) D) := by
  have hn : (Hi.nms (Hi.bl ++ l)).length = 8 + l.length := by rw [Hi.nms_len, List.length_append]; rfl
  refine ⟨fun h1 h2 h3 u1 u2 => ?_, fun h1 h2 u1 u2 => ?_, fun h1 h2 => ?_, fun h1 u => ?_⟩
  · have := Hi.idx_lt h1
    exact ht.und_trans (by omega) u1 u2
  · have := Hi.idx_lt h1
    have := Hi.idx_lt h2
    exact ht.und_anti (by omega) (by omega) u1 u2
  · have e1 := Hi.idx_some h1
    have e2 := Hi.idx_some h2
    exact Option.some.inj (e1.symm.trans e2)
  · rw [ht.und_root] at u
    exact (of_decide_eq_true u).symm
/-- The boxed argument's types. -/
theorem args_box {w W : World} {a b c : T} {lv : Value} (h : BX W w.heap.size #[lv, .int .i64 a.k, .string a.n, .int .i64 b.k, .string b.n, .int .i64 c.k, .string c.n] 34) : W.cell? ⟨w.heap.size, 1, none⟩ = some (.int .i64 a.k) ∧ W.cell? ⟨w.heap.size, 2, none⟩ = some (.string a.n) ∧ W.cell? ⟨w.heap.size, 3, none⟩ = some (.int .i64 b.k) ∧ W.cell? ⟨w.heap.size, 4, none⟩ = some (.string b.n) ∧ W.cell? ⟨w.heap.size, 5, none⟩ = some (.int .i64 c.k) ∧ W.cell? ⟨w.heap.size, 6, none⟩ = some (.string c.n) :=
  ⟨h.cell 1, h.cell 2, h.cell 3, h.cell 4, h.cell 5, h.cell 6⟩
set_option maxRecDepth 100000
set_option maxHeartbeats 8000000
theorem order_law {w : World} {lv : Value} {l : List Hi.Ln} {a b c : T} (hl : Kit.IsS 2 w lv l.length (l.flatMap lnL)) (hs : ∀ x ∈ l, x.1.size ≤ maxLen ∧ x.2.size ≤ maxLen) (ha : a.n.size ≤ 140737488351232) (hb : b.n.size ≤ 140737488351232) (hc : c.n.size ≤ 140737488351232) :
    Calls Tryd.prog 4 #[.agg #[lv, .int .i64 a.k, .string a.n, .int .i64 b.k, .string b.n, .int .i64 c.k, .string c.n]] w fun e w' => e = .returned (.bool true) ∧ Below w.heap.size w w' := by
  have ham : a.n.size ≤ maxLen := by unfold maxLen; omega
  have hbm : b.n.size ≤ maxLen := by unfold maxLen; omega
  have hcm : c.n.size ≤ maxLen := by unfold maxLen; omega
  have htm : Ty.top.n.size ≤ maxLen := Nat.zero_le _
  have hb0 : Below w.heap.size w (w.alloc (.cells #[lv, .int .i64 a.k, .string a.n, .int .i64 b.k, .string b.n, .int .i64 c.k, .string c.n] 34)) := (Below.refl _ _).alloc (Nat.le_refl _) _
  have hbx := BX.new w #[lv, .int .i64 a.k, .string a.n, .int .i64 b.k, .string b.n, .int .i64 c.k, .string c.n] 34
  have x0 := hbx.cell 0
  have hl0 := hl.below hb0 (Nat.le_refl _)
  have HB0 := hid hb0
  have HBX := hid hbx
  by_cases he : Hi.err l = 0
  · have HN := hid (both_yes hl0 hs he)
    clear hl hs he hl0 hb0 hbx
    go_enter Tryd.func4, Tryd.ntmps4
    go_upto_region 2 with (go_at_call 16; go_loud (refine HN.out.mono ?_; rintro e w1 ⟨H, D, rb, rfl, hb1, hm, ok, hnm, hnf, hn⟩; have HB1 := hid hb1; have HMM := hid hm; have HO := hid ok; have HNN := hid hnm; have HNL := hid hn; clear hb1 hm ok hnm hnf hn))
    have hq := HMM.out.hq HO.out
    rw [HNN.out] at hq
    have tr := HO.out.tr
    rw [HNL.out] at tr
    have o := ord_of tr
    obtain ⟨I, hI⟩ : ∃ I, (fun s => Hi.idx s (Hi.nms (Hi.bl ++ l))) = I := ⟨_, rfl⟩
    obtain ⟨U, hU⟩ : ∃ U, Hi.und (Hi.sup (Hi.bl ++ l)) D = U := ⟨_, rfl⟩
    rw [hI, hU] at hq o
    obtain ⟨hp, hhp⟩ : ∃ hp, H.hb = hp := ⟨_, rfl⟩
    rw [hhp] at hq ⊢
    have HVA := hid (fun X hX => valid_any hq.find ham (X := X) hX)
    have HVB := hid (fun X hX => valid_any hq.find hbm (X := X) hX)
    have HVC := hid (fun X hX => valid_any hq.find hcm (X := X) hX)
    have HXs := hid (fun X (hX : Below w1.heap.size w1 X) => args_box ((HBX.out.below HB1.out).below hX))
    have HB := hid (Below.refl w1.heap.size w1)
    have HBW := hid (belows HB0.out HB1.out HB0.out.size)
    obtain ⟨x1, x2, x3, x4, x5, x6⟩ := HXs.out _ HB.out
    clear HMM HO HNN HNL tr hI hU hhp HN HB1 x0
    by_cases hv : Ty.val I a = true ∧ Ty.val I b = true ∧ Ty.val I c = true
    · obtain ⟨va, vb, vc⟩ := hv
      have hab : Ty.Fit I U a b = Ty.fit I U a b := by unfold Ty.Fit; rw [va, vb]; rfl
      have hba : Ty.Fit I U b a = Ty.fit I U b a := by unfold Ty.Fit; rw [va, vb]; rfl
      have hbc : Ty.Fit I U b c = Ty.fit I U b c := by unfold Ty.Fit; rw [vb, vc]; rfl
      have hac : Ty.Fit I U a c = Ty.fit I U a c := by unfold Ty.Fit; rw [va, vc]; rfl
      have haa : Ty.Fit I U a a = true := by unfold Ty.Fit; rw [va, Ty.fit_refl]; rfl
      have hat : Ty.Fit I U a Ty.top = true := by unfold Ty.Fit; rw [va, Ty.fit_top, Ty.val_top]; rfl
      have htr : Ty.fit I U a b = true → Ty.fit I U b c = true → Ty.fit I U a c = true := Ty.fit_trans o
      have han : Ty.fit I U a b = true → Ty.fit I U b a = true → a = b := Ty.fit_anti o (Ty.val_name va) (Ty.val_name vb)
      have HAA := hid (fun X hX => Fits_any hq ham ham X hX)
      have HAT := hid (fun X hX => Fits_any hq ham htm X hX)
      have HAB := hid (fun X hX => Fits_any hq ham hbm X hX)
      have HBA := hid (fun X hX => Fits_any hq hbm ham X hX)
      have HBC := hid (fun X hX => Fits_any hq hbm hcm X hX)
      have HAC := hid (fun X hX => Fits_any hq ham hcm X hX)
      rw [haa] at HAA
      rw [hat] at HAT
      rw [hab] at HAB
      rw [hba] at HBA
      rw [hbc] at HBC
      rw [hac] at HAC
      rw [va] at HVA
      rw [vb] at HVB
      rw [vc] at HVC
      obtain ⟨f1, hf1⟩ : ∃ f, Ty.fit I U a b = f := ⟨_, rfl⟩
      obtain ⟨f2, hf2⟩ : ∃ f, Ty.fit I U b a = f := ⟨_, rfl⟩
      obtain ⟨f3, hf3⟩ : ∃ f, Ty.fit I U b c = f := ⟨_, rfl⟩
      obtain ⟨f4, hf4⟩ : ∃ f, Ty.fit I U a c = f := ⟨_, rfl⟩
      rw [hf1, hf3, hf4] at htr
      rw [hf1, hf2] at han
      rw [hf1] at HAB
      rw [hf2] at HBA
      rw [hf3] at HBC
      rw [hf4] at HAC
      have htopv : tyA Ty.top = .agg #[.int .i64 0, .string ⟨#[]⟩] := rfl
      rw [htopv] at HAT
      by_cases heq : a = b
      · subst heq
        have e1 : f1 = true := by rw [← hf1]; exact Ty.fit_refl
        have e2 : f3 = f4 := by rw [← hf3, ← hf4]
        subst e1 e2
        obtain ⟨ak, an⟩ := a
        obtain ⟨ck, cn⟩ := c
        unfold tyA at HAA HAT HAB HBA HBC HAC HVA HVB HVC
        dsimp only at HAA HAT HAB HBA HBC HAC HVA HVB HVC HXs x1 x2 x3 x4 x5 x6 ⊢
        clear hf1 hf2 hf3 hf4 htr han va vb vc hab hba hbc hac haa hat o hq ham hbm hcm htm ha hb hc htopv HBX HB0
        cases f3 <;>
        · go_wp2_with (first | (go_at_call 17; (with_reducible refine (HVA.out _ HB.out).mono ?_); rintro e W ⟨rfl, hb⟩; have HB := hid (belows HB.out hb HB.out.size); clear hb x1 x2 x3 x4 x5 x6; obtain ⟨x1, x2, x3, x4, x5, x6⟩ := HXs.out _ HB.out) | (go_at_call 17; (with_reducible refine (HVB.out _ HB.out).mono ?_); rintro e W ⟨rfl, hb⟩; have HB := hid (belows HB.out hb HB.out.size); clear hb x1 x2 x3 x4 x5 x6; obtain ⟨x1, x2, x3, x4, x5, x6⟩ := HXs.out _ HB.out) | (go_at_call 17; (with_reducible refine (HVC.out _ HB.out).mono ?_); rintro e W ⟨rfl, hb⟩; have HB := hid (belows HB.out hb HB.out.size); clear hb x1 x2 x3 x4 x5 x6; obtain ⟨x1, x2, x3, x4, x5, x6⟩ := HXs.out _ HB.out) | (go_at_call 18; (with_reducible refine (HAA.out _ HB.out).mono ?_); rintro e W ⟨rfl, hb⟩; have HB := hid (belows HB.out hb HB.out.size); clear hb x1 x2 x3 x4 x5 x6; obtain ⟨x1, x2, x3, x4, x5, x6⟩ := HXs.out _ HB.out) | (go_at_call 18; (with_reducible refine (HAT.out _ HB.out).mono ?_); rintro e W ⟨rfl, hb⟩; have HB := hid (belows HB.out hb HB.out.size); clear hb x1 x2 x3 x4 x5 x6; obtain ⟨x1, x2, x3, x4, x5, x6⟩ := HXs.out _ HB.out) | (go_at_call 18; (with_reducible refine (HAB.out _ HB.out).mono ?_); rintro e W ⟨rfl, hb⟩; have HB := hid (belows HB.out hb HB.out.size); clear hb x1 x2 x3 x4 x5 x6; obtain ⟨x1, x2, x3, x4, x5, x6⟩ := HXs.out _ HB.out) | (go_at_call 18; (with_reducible refine (HBA.out _ HB.out).mono ?_); rintro e W ⟨rfl, hb⟩; have HB := hid (belows HB.out hb HB.out.size); clear hb x1 x2 x3 x4 x5 x6; obtain ⟨x1, x2, x3, x4, x5, x6⟩ := HXs.out _ HB.out) | (go_at_call 18; (with_reducible refine (HBC.out _ HB.out).mono ?_); rintro e W ⟨rfl, hb⟩; have HB := hid (belows HB.out hb HB.out.size); clear hb x1 x2 x3 x4 x5 x6; obtain ⟨x1, x2, x3, x4, x5, x6⟩ := HXs.out _ HB.out) | (go_at_call 18; (with_reducible refine (HAC.out _ HB.out).mono ?_); rintro e W ⟨rfl, hb⟩; have HB := hid (belows HB.out hb HB.out.size); clear hb x1 x2 x3 x4 x5 x6; obtain ⟨x1, x2, x3, x4, x5, x6⟩ := HXs.out _ HB.out) | (go_at_call 11; refine (live_any _).mono ?_; rintro e W ⟨rfl, hb⟩; have HB := hid (belows HB.out hb HB.out.size); clear hb x1 x2 x3 x4 x5 x6; obtain ⟨x1, x2, x3, x4, x5, x6⟩ := HXs.out _ HB.out))
          go_ret
          exact ⟨by simp, belows HBW.out HB.out HBW.out.size⟩
      · have hne : ¬ (a.k = b.k ∧ a.n = b.n) := fun h => heq (Ty.t_eq h)
        have hor := ty_ne hne
        have hf2f : f1 = true → f2 = false := fun h => by
          cases f2 with
          | false => rfl
          | true => exact absurd (han h rfl) heq
        obtain ⟨ak, an⟩ := a
        obtain ⟨bk, bn⟩ := b
        obtain ⟨ck, cn⟩ := c
        unfold tyA at HAA HAT HAB HBA HBC HAC HVA HVB HVC
        dsimp only at HAA HAT HAB HBA HBC HAC HVA HVB HVC HXs x1 x2 x3 x4 x5 x6 hor ⊢
        clear hf1 hf2 hf3 hf4 han va vb vc hab hba hbc hac haa hat o hq ham hbm hcm htm ha hb hc htopv HBX HB0 heq hne
        cases f1 with
        | false =>
          clear htr hf2f
          rcases hor with hor | ⟨rfl, hor⟩ <;>
          · go_wp2_with (first | (go_at_call 17; (with_reducible refine (HVA.out _ HB.out).mono ?_); rintro e W ⟨rfl, hb⟩; have HB := hid (belows HB.out hb HB.out.size); clear hb x1 x2 x3 x4 x5 x6; obtain ⟨x1, x2, x3, x4, x5, x6⟩ := HXs.out _ HB.out) | (go_at_call 17; (with_reducible refine (HVB.out _ HB.out).mono ?_); rintro e W ⟨rfl, hb⟩; have HB := hid (belows HB.out hb HB.out.size); clear hb x1 x2 x3 x4 x5 x6; obtain ⟨x1, x2, x3, x4, x5, x6⟩ := HXs.out _ HB.out) | (go_at_call 17; (with_reducible refine (HVC.out _ HB.out).mono ?_); rintro e W ⟨rfl, hb⟩; have HB := hid (belows HB.out hb HB.out.size); clear hb x1 x2 x3 x4 x5 x6; obtain ⟨x1, x2, x3, x4, x5, x6⟩ := HXs.out _ HB.out) | (go_at_call 18; (with_reducible refine (HAA.out _ HB.out).mono ?_); rintro e W ⟨rfl, hb⟩; have HB := hid (belows HB.out hb HB.out.size); clear hb x1 x2 x3 x4 x5 x6; obtain ⟨x1, x2, x3, x4, x5, x6⟩ := HXs.out _ HB.out) | (go_at_call 18; (with_reducible refine (HAT.out _ HB.out).mono ?_); rintro e W ⟨rfl, hb⟩; have HB := hid (belows HB.out hb HB.out.size); clear hb x1 x2 x3 x4 x5 x6; obtain ⟨x1, x2, x3, x4, x5, x6⟩ := HXs.out _ HB.out) | (go_at_call 18; (with_reducible refine (HAB.out _ HB.out).mono ?_); rintro e W ⟨rfl, hb⟩; have HB := hid (belows HB.out hb HB.out.size); clear hb x1 x2 x3 x4 x5 x6; obtain ⟨x1, x2, x3, x4, x5, x6⟩ := HXs.out _ HB.out) | (go_at_call 18; (with_reducible refine (HBA.out _ HB.out).mono ?_); rintro e W ⟨rfl, hb⟩; have HB := hid (belows HB.out hb HB.out.size); clear hb x1 x2 x3 x4 x5 x6; obtain ⟨x1, x2, x3, x4, x5, x6⟩ := HXs.out _ HB.out) | (go_at_call 18; (with_reducible refine (HBC.out _ HB.out).mono ?_); rintro e W ⟨rfl, hb⟩; have HB := hid (belows HB.out hb HB.out.size); clear hb x1 x2 x3 x4 x5 x6; obtain ⟨x1, x2, x3, x4, x5, x6⟩ := HXs.out _ HB.out) | (go_at_call 18; (with_reducible refine (HAC.out _ HB.out).mono ?_); rintro e W ⟨rfl, hb⟩; have HB := hid (belows HB.out hb HB.out.size); clear hb x1 x2 x3 x4 x5 x6; obtain ⟨x1, x2, x3, x4, x5, x6⟩ := HXs.out _ HB.out) | (go_at_call 11; refine (live_any _).mono ?_; rintro e W ⟨rfl, hb⟩; have HB := hid (belows HB.out hb HB.out.size); clear hb x1 x2 x3 x4 x5 x6; obtain ⟨x1, x2, x3, x4, x5, x6⟩ := HXs.out _ HB.out))
            go_ret
            exact ⟨by simp, belows HBW.out HB.out HBW.out.size⟩
        | true =>
          obtain rfl := hf2f rfl
          clear hf2f
          cases f3 with
          | false =>
            clear htr
            rcases hor with hor | ⟨rfl, hor⟩ <;>
            · go_wp2_with (first | (go_at_call 17; (with_reducible refine (HVA.out _ HB.out).mono ?_); rintro e W ⟨rfl, hb⟩; have HB := hid (belows HB.out hb HB.out.size); clear hb x1 x2 x3 x4 x5 x6; obtain ⟨x1, x2, x3, x4, x5, x6⟩ := HXs.out _ HB.out) | (go_at_call 17; (with_reducible refine (HVB.out _ HB.out).mono ?_); rintro e W ⟨rfl, hb⟩; have HB := hid (belows HB.out hb HB.out.size); clear hb x1 x2 x3 x4 x5 x6; obtain ⟨x1, x2, x3, x4, x5, x6⟩ := HXs.out _ HB.out) | (go_at_call 17; (with_reducible refine (HVC.out _ HB.out).mono ?_); rintro e W ⟨rfl, hb⟩; have HB := hid (belows HB.out hb HB.out.size); clear hb x1 x2 x3 x4 x5 x6; obtain ⟨x1, x2, x3, x4, x5, x6⟩ := HXs.out _ HB.out) | (go_at_call 18; (with_reducible refine (HAA.out _ HB.out).mono ?_); rintro e W ⟨rfl, hb⟩; have HB := hid (belows HB.out hb HB.out.size); clear hb x1 x2 x3 x4 x5 x6; obtain ⟨x1, x2, x3, x4, x5, x6⟩ := HXs.out _ HB.out) | (go_at_call 18; (with_reducible refine (HAT.out _ HB.out).mono ?_); rintro e W ⟨rfl, hb⟩; have HB := hid (belows HB.out hb HB.out.size); clear hb x1 x2 x3 x4 x5 x6; obtain ⟨x1, x2, x3, x4, x5, x6⟩ := HXs.out _ HB.out) | (go_at_call 18; (with_reducible refine (HAB.out _ HB.out).mono ?_); rintro e W ⟨rfl, hb⟩; have HB := hid (belows HB.out hb HB.out.size); clear hb x1 x2 x3 x4 x5 x6; obtain ⟨x1, x2, x3, x4, x5, x6⟩ := HXs.out _ HB.out) | (go_at_call 18; (with_reducible refine (HBA.out _ HB.out).mono ?_); rintro e W ⟨rfl, hb⟩; have HB := hid (belows HB.out hb HB.out.size); clear hb x1 x2 x3 x4 x5 x6; obtain ⟨x1, x2, x3, x4, x5, x6⟩ := HXs.out _ HB.out) | (go_at_call 18; (with_reducible refine (HBC.out _ HB.out).mono ?_); rintro e W ⟨rfl, hb⟩; have HB := hid (belows HB.out hb HB.out.size); clear hb x1 x2 x3 x4 x5 x6; obtain ⟨x1, x2, x3, x4, x5, x6⟩ := HXs.out _ HB.out) | (go_at_call 18; (with_reducible refine (HAC.out _ HB.out).mono ?_); rintro e W ⟨rfl, hb⟩; have HB := hid (belows HB.out hb HB.out.size); clear hb x1 x2 x3 x4 x5 x6; obtain ⟨x1, x2, x3, x4, x5, x6⟩ := HXs.out _ HB.out) | (go_at_call 11; refine (live_any _).mono ?_; rintro e W ⟨rfl, hb⟩; have HB := hid (belows HB.out hb HB.out.size); clear hb x1 x2 x3 x4 x5 x6; obtain ⟨x1, x2, x3, x4, x5, x6⟩ := HXs.out _ HB.out))
              go_ret
              exact ⟨by simp, belows HBW.out HB.out HBW.out.size⟩
          | true =>
            obtain rfl := htr rfl rfl
            clear htr
            rcases hor with hor | ⟨rfl, hor⟩ <;>
            · go_wp2_with (first | (go_at_call 17; (with_reducible refine (HVA.out _ HB.out).mono ?_); rintro e W ⟨rfl, hb⟩; have HB := hid (belows HB.out hb HB.out.size); clear hb x1 x2 x3 x4 x5 x6; obtain ⟨x1, x2, x3, x4, x5, x6⟩ := HXs.out _ HB.out) | (go_at_call 17; (with_reducible refine (HVB.out _ HB.out).mono ?_); rintro e W ⟨rfl, hb⟩; have HB := hid (belows HB.out hb HB.out.size); clear hb x1 x2 x3 x4 x5 x6; obtain ⟨x1, x2, x3, x4, x5, x6⟩ := HXs.out _ HB.out) | (go_at_call 17; (with_reducible refine (HVC.out _ HB.out).mono ?_); rintro e W ⟨rfl, hb⟩; have HB := hid (belows HB.out hb HB.out.size); clear hb x1 x2 x3 x4 x5 x6; obtain ⟨x1, x2, x3, x4, x5, x6⟩ := HXs.out _ HB.out) | (go_at_call 18; (with_reducible refine (HAA.out _ HB.out).mono ?_); rintro e W ⟨rfl, hb⟩; have HB := hid (belows HB.out hb HB.out.size); clear hb x1 x2 x3 x4 x5 x6; obtain ⟨x1, x2, x3, x4, x5, x6⟩ := HXs.out _ HB.out) | (go_at_call 18; (with_reducible refine (HAT.out _ HB.out).mono ?_); rintro e W ⟨rfl, hb⟩; have HB := hid (belows HB.out hb HB.out.size); clear hb x1 x2 x3 x4 x5 x6; obtain ⟨x1, x2, x3, x4, x5, x6⟩ := HXs.out _ HB.out) | (go_at_call 18; (with_reducible refine (HAB.out _ HB.out).mono ?_); rintro e W ⟨rfl, hb⟩; have HB := hid (belows HB.out hb HB.out.size); clear hb x1 x2 x3 x4 x5 x6; obtain ⟨x1, x2, x3, x4, x5, x6⟩ := HXs.out _ HB.out) | (go_at_call 18; (with_reducible refine (HBA.out _ HB.out).mono ?_); rintro e W ⟨rfl, hb⟩; have HB := hid (belows HB.out hb HB.out.size); clear hb x1 x2 x3 x4 x5 x6; obtain ⟨x1, x2, x3, x4, x5, x6⟩ := HXs.out _ HB.out) | (go_at_call 18; (with_reducible refine (HBC.out _ HB.out).mono ?_); rintro e W ⟨rfl, hb⟩; have HB := hid (belows HB.out hb HB.out.size); clear hb x1 x2 x3 x4 x5 x6; obtain ⟨x1, x2, x3, x4, x5, x6⟩ := HXs.out _ HB.out) | (go_at_call 18; (with_reducible refine (HAC.out _ HB.out).mono ?_); rintro e W ⟨rfl, hb⟩; have HB := hid (belows HB.out hb HB.out.size); clear hb x1 x2 x3 x4 x5 x6; obtain ⟨x1, x2, x3, x4, x5, x6⟩ := HXs.out _ HB.out) | (go_at_call 11; refine (live_any _).mono ?_; rintro e W ⟨rfl, hb⟩; have HB := hid (belows HB.out hb HB.out.size); clear hb x1 x2 x3 x4 x5 x6; obtain ⟨x1, x2, x3, x4, x5, x6⟩ := HXs.out _ HB.out))
              go_ret
              exact ⟨by simp, belows HBW.out HB.out HBW.out.size⟩
    · obtain ⟨v1, h1⟩ : ∃ v, Ty.val I a = v := ⟨_, rfl⟩
      obtain ⟨v2, h2⟩ : ∃ v, Ty.val I b = v := ⟨_, rfl⟩
      obtain ⟨v3, h3⟩ : ∃ v, Ty.val I c = v := ⟨_, rfl⟩
      rw [h1, h2, h3] at hv
      rw [h1] at HVA
      rw [h2] at HVB
      rw [h3] at HVC
      obtain ⟨ak, an⟩ := a
      obtain ⟨bk, bn⟩ := b
      obtain ⟨ck, cn⟩ := c
      unfold tyA at HVA HVB HVC
      dsimp only at HVA HVB HVC HXs x1 x2 x3 x4 x5 x6 ⊢
      clear h1 h2 h3 o hq ham hbm hcm htm ha hb hc HBX HB0
      cases v1 <;> cases v2 <;> cases v3 <;> (try (exact absurd ⟨rfl, rfl, rfl⟩ hv)) <;>
      · clear hv
        go_wp2_with (first | (go_at_call 17; (with_reducible refine (HVA.out _ HB.out).mono ?_); rintro e W ⟨rfl, hb⟩; have HB := hid (belows HB.out hb HB.out.size); clear hb x1 x2 x3 x4 x5 x6; obtain ⟨x1, x2, x3, x4, x5, x6⟩ := HXs.out _ HB.out) | (go_at_call 17; (with_reducible refine (HVB.out _ HB.out).mono ?_); rintro e W ⟨rfl, hb⟩; have HB := hid (belows HB.out hb HB.out.size); clear hb x1 x2 x3 x4 x5 x6; obtain ⟨x1, x2, x3, x4, x5, x6⟩ := HXs.out _ HB.out) | (go_at_call 17; (with_reducible refine (HVC.out _ HB.out).mono ?_); rintro e W ⟨rfl, hb⟩; have HB := hid (belows HB.out hb HB.out.size); clear hb x1 x2 x3 x4 x5 x6; obtain ⟨x1, x2, x3, x4, x5, x6⟩ := HXs.out _ HB.out) | (go_at_call 11; refine (live_any _).mono ?_; rintro e W ⟨rfl, hb⟩; have HB := hid (belows HB.out hb HB.out.size); clear hb x1 x2 x3 x4 x5 x6; obtain ⟨x1, x2, x3, x4, x5, x6⟩ := HXs.out _ HB.out))
        go_ret
        exact ⟨rfl, belows HBW.out HB.out HBW.out.size⟩
  · have HN := hid (both_no hl0 hs he)
    clear hl hs he hl0 hb0 hbx
    go_enter Tryd.func4, Tryd.ntmps4
    go_wp2_with (first | (go_at_call 16; go_loud (refine HN.out.mono ?_; rintro e w1 ⟨u, v, rfl, hb1⟩; have HB1 := hid hb1; clear hb1)) | (go_at_call 11; go_loud (refine (live_any _).mono ?_; rintro e w2 ⟨rfl, hb2⟩; have HB2 := hid (belows HB1.out hb2 HB1.out.size); clear hb2)))
    go_ret
    exact ⟨rfl, belows HB0.out HB2.out HB0.out.size⟩
end Go.Proofs.YtahjnaoabfkpcaaDoor
namespace Go.Proofs.YtahjnaoabfkpcaaDoor
open Go.ChangeShapes Go.WideShapes Go.ChangeAt Go.RowKit Go.WideMaps Go.WideElems
open Ty (T)
set_option maxRecDepth 100000
section
variable {H : Type} {enc : TypeId × Value → H}
theorem weights_allT {P : Program} {e : TypeId} : ∀ {ds : List (DataW H)} {d : DataW H}, d ∈ ds → (DataW.weightsAll P e ds).all (· ≤ reachBytes) = true → (d.weights P e).all (· ≤ reachBytes) = true
  | [], _, h, _ => by cases h
  | x :: r, d, h, hw => by
    simp only [DataW.weightsAll, List.all_append, Bool.and_eq_true] at hw
    rcases List.mem_cons.1 h with rfl | h
    · exact hw.1
    · exact weights_allT h hw.2
theorem bulk_pos (d : DataW H) : 1 ≤ Rows.uptoBulk d := by
  cases d with
  | lit l => cases l <;> simp [Rows.uptoBulk]
  | _ => simp [Rows.uptoBulk]
theorem bulk_len : ∀ l : List (DataW H), l.length ≤ Rows.uptoBulkAll l
  | [] => by simp [Rows.uptoBulkAll]
  | x :: r => by have h1 := bulk_pos x; have h2 := bulk_len r; simp only [Rows.uptoBulkAll, List.length_cons]; omega
theorem bulk_mem : ∀ {l : List (DataW H)} {d : DataW H}, d ∈ l → Rows.uptoBulk d ≤ Rows.uptoBulkAll l
  | [], _, h => by cases h
  | x :: r, d, h => by
    simp only [Rows.uptoBulkAll]
    rcases List.mem_cons.1 h with rfl | h
    · omega
    · have := bulk_mem h; omega
theorem A.cellsInt : Tryd.prog.cellsOf 3 = 1 := by kernel_rfl
theorem A.cellsStr : Tryd.prog.cellsOf 9 = 1 := by kernel_rfl
theorem A.cellsTy : Tryd.prog.cellsOf 23 = 2 := by kernel_rfl
theorem A.cellsLns : Tryd.prog.cellsOf 32 = 1 := by kernel_rfl
set_option maxRecDepth 100000 in
/-- A list of things of so many cells each, in a cell. -/
theorem list_cell {α : Type} {W : World} {n : Nat} {k : Value} {y : DataW H × List MemPlace} {tS tE : TypeId} {s by_ : Nat} (G : DataW H → List Value → α → Prop) (hG : ∀ d cs x, G d cs x → cs.length = s) (hs : 0 < s)
    (hu : Tryd.prog.underlying tS = some (.slice tE)) (hco : Tryd.prog.cellsOf tE = s) (hby : Tryd.prog.bytesOf tE = by_) (hb0 : 0 < by_)
    (he : ∀ (m : Nat) (cs : List Value) (z : DataW H × List MemPlace), DataW.trod enc Tryd.prog W 0 (fun _ => true) true m tE cs = some z → (z.1.weights Tryd.prog tE).all (· ≤ reachBytes) = true → ∃ x, G z.1 cs x)
    (h : DataW.trod enc Tryd.prog W 0 (fun _ => true) true n tS [k] = some y) (hw : (y.1.weights Tryd.prog tS).all (· ≤ reachBytes) = true) :
    ∃ (xs : List α) (rs : List (List Value)), rs.length = xs.length ∧ (∀ (i : Nat) (r : List Value) (x : α), rs[i]? = some r → xs[i]? = some x → ∃ d, G d r x ∧ Rows.uptoBulk d ≤ Rows.uptoBulk y.1) ∧ Kit.IsS s W k xs.length rs.flatten ∧ xs.length * by_ ≤ 140737488351232 ∧ xs.length ≤ Rows.uptoBulk y.1 := by
  rcases DataW.trod_slice hu h with ⟨hcs, rfl⟩ | ⟨a, len, cap, elems, rest, m, -, hcs, rfl, -, hl, hm, hel, hcells, hsp, -⟩
  · obtain rfl : k = .slice none 0 0 := by simpa using hcs
    exact ⟨[], [], rfl, fun i r x hr => by simp at hr, ⟨by simp, by simp, .inl ⟨rfl, none, 0, rfl⟩⟩, by simp, by simp⟩
  · obtain rfl : k = .slice (some a) len cap := by simpa using hcs
    simp only [DataW.weights, hu, List.all_cons, List.all_append, Bool.and_eq_true, decide_eq_true_eq, hby] at hw
    have hcap : len * by_ ≤ 140737488351232 := by
      have h1 := hw.1
      simp only [List.length_map, reachBytes] at h1
      rw [hel] at h1
      exact Nat.le_trans (Nat.mul_le_mul_right _ (Nat.le_add_right _ _)) h1
    have hbl : len ≤ Rows.uptoBulk (.slice (elems.map (·.1)) (rest.map (·.1)) : DataW H) := by
      have := bulk_len (elems.map (·.1))
      rw [List.length_map, hel] at this
      simp only [Rows.uptoBulk]
      omega
    have each : ∀ i, ∃ q : List Value × Option α, i < len → q.1.length = s ∧ (∀ j, j < s → W.cell? ((a.add (i * s)).add j) = q.1[j]?) ∧ ∃ x d, q.2 = some x ∧ G d q.1 x ∧ Rows.uptoBulk d ≤ Rows.uptoBulk (.slice (elems.map (·.1)) (rest.map (·.1)) : DataW H) := by
      intro i
      by_cases hi : i < len
      · have h1 := hcells i hi
        rw [hco, List.getElem?_eq_getElem (by omega), Option.bind_eq_some_iff] at h1
        obtain ⟨cs, hcs', htr⟩ := h1
        have hmem : elems[i].1 ∈ elems.map (·.1) := List.mem_map_of_mem (List.getElem_mem _)
        obtain ⟨x, hx⟩ := he _ _ _ htr (weights_allT hmem hw.2.1)
        refine ⟨(cs, some x), fun _ => ⟨hG _ _ _ hx, fun j hj => (World.cells?_some hcs').2.2 j hj, x, _, rfl, hx, ?_⟩⟩
        have := bulk_mem hmem
        simp only [Rows.uptoBulk]
        omega
      · exact ⟨([], none), fun h => absurd h hi⟩
    obtain ⟨f, hfx⟩ := Classical.skolem.1 each
    have hxs : ∃ xs : List α, xs.length = len ∧ ∀ i, i < len → xs[i]? = (f i).2 := by
      have : ∀ m, m ≤ len → ∃ xs : List α, xs.length = m ∧ ∀ i, i < m → xs[i]? = (f i).2 := by
        intro m
        induction m with
        | zero => intro _; exact ⟨[], rfl, fun i hi => by omega⟩
        | succ m ih =>
          intro hm
          obtain ⟨xs, h1, h2⟩ := ih (by omega)
          obtain ⟨-, -, x, d, hx, -⟩ := hfx m (by omega)
          refine ⟨xs ++ [x], by simp [h1], fun i hi => ?_⟩
          by_cases e : i < m
          · rw [List.getElem?_append_left (by omega)]; exact h2 i e
          · obtain rfl : i = m := by omega
            rw [List.getElem?_append_right (by omega), h1, Nat.sub_self, hx]
            rfl
      exact this len (Nat.le_refl _)
    obtain ⟨xs, hxl, hxe⟩ := hxs
    have hrl : ∀ r ∈ (List.range len).map (fun i => (f i).1), r.length = s := by
      intro r hr
      obtain ⟨i, hi, rfl⟩ := List.mem_map.1 hr
      exact (hfx i (List.mem_range.1 hi)).1
    have hfl : ∀ (rs : List (List Value)), (∀ r ∈ rs, r.length = s) → rs.flatten.length = rs.length * s ∧ ∀ i r, rs[i]? = some r → ∀ j, j < s → rs.flatten[i * s + j]? = r[j]? := by
      intro rs
      induction rs with
      | nil => intro _; exact ⟨by simp, fun i r hr => by simp at hr⟩
      | cons r0 rs ih =>
        intro hr
        obtain ⟨h1, h2⟩ := ih (fun r h => hr r (List.mem_cons_of_mem _ h))
        have h0 := hr r0 (by simp)
        refine ⟨by rw [List.flatten_cons, List.length_append, h0, h1, List.length_cons, Nat.succ_mul]; omega, fun i r hi j hj => ?_⟩
        match i, hi with
        | 0, hi =>
          simp at hi
          subst hi
          rw [List.flatten_cons, List.getElem?_append_left (by omega)]
          simp
        | i + 1, hi =>
          rw [List.flatten_cons, List.getElem?_append_right (by rw [h0, Nat.succ_mul]; omega), h0, ← h2 i r (by simpa using hi) j hj]
          congr 1
          rw [Nat.succ_mul]
          omega
    obtain ⟨hfl1, hfl2⟩ := hfl _ hrl
    have hrlen : ((List.range len).map (fun i => (f i).1)).length = len := by simp
    refine ⟨xs, (List.range len).map (fun i => (f i).1), by rw [hrlen, hxl], fun i r x hr hx => ?_, ⟨by rw [hfl1, hrlen, hxl], by rw [hxl]; exact Nat.le_trans (Nat.le_trans (Nat.le_mul_of_pos_right _ hb0) hcap) (by decide), ?_⟩, by rw [hxl]; exact hcap, by rw [hxl]; exact hbl⟩
    · have hi : i < len := by
        have := (List.getElem?_eq_some_iff.1 hx).1
        omega
      obtain ⟨-, -, x', d, hx', hg, hb⟩ := hfx i hi
      rw [hxe i hi, hx'] at hx
      cases hx
      rw [List.getElem?_map, List.getElem?_range hi] at hr
      simp only [Option.map_some, Option.some.injEq] at hr
      subst hr
      exact ⟨d, hg, hb⟩
    · by_cases h0 : len = 0
      · exact .inl ⟨by rw [hxl, h0], some a, cap, by rw [h0]⟩
      · obtain ⟨b, o, spot⟩ := a
        have hsp0 : ∃ u, W.cell? (((⟨b, o, spot⟩ : Addr).add (0 * s)).add 0) = some u := by
          obtain ⟨h1, h2, -⟩ := hfx 0 (by omega)
          refine ⟨(f 0).1[0]'(by omega), ?_⟩
          rw [h2 0 hs, List.getElem?_eq_getElem]
        obtain ⟨u0, hsp0⟩ := hsp0
        have hspot : spot = none := by
          have := World.cell?_spot hsp0
          simpa [Addr.add] using this
        subst hspot
        have hat : ∀ i j, ((⟨b, o, none⟩ : Addr).add i).add j = ⟨b, o + (i + j), none⟩ := by
          intro i j
          rw [add_plain, add_plain]; congr 1; omega
        refine .inr ⟨b, o, cap, by rw [hxl], by rw [hxl]; exact hl, ?_, fun i u hi => ?_⟩
        · have := World.block_lt_of_cell? W _ hsp0
          simpa [Addr.add] using this
        · have hil : i < len * s := by
            have := (List.getElem?_eq_some_iff.1 hi).1
            rw [hfl1, hrlen] at this
            exact this
          have hq : i / s < len := Nat.div_lt_of_lt_mul (by rw [Nat.mul_comm]; exact hil)
          have hr : i % s < s := Nat.mod_lt _ hs
          have e : i / s * s + i % s = i := by rw [Nat.mul_comm]; exact Nat.div_add_mod i s
          have hget : ((List.range len).map (fun i => (f i).1))[i / s]? = some (f (i / s)).1 := by rw [List.getElem?_map, List.getElem?_range hq]; rfl
          have h1 := hfl2 (i / s) _ hget (i % s) hr
          rw [e] at h1
          have h2 := (hfx (i / s) hq).2.1 (i % s) hr
          rw [hat, e] at h2
          rw [h2, ← h1]
          exact hi
theorem rs_map {α : Type} {f : α → List Value} {xs : List α} {rs : List (List Value)} (hl : rs.length = xs.length) (h : ∀ (i : Nat) (r : List Value) (x : α), rs[i]? = some r → xs[i]? = some x → r = f x) : rs.flatten = xs.flatMap f := by
  have e : rs = xs.map f := by
    apply List.ext_getElem?
    intro i
    rw [List.getElem?_map]
    by_cases hi : i < xs.length
    · have h1 : rs[i]? = some rs[i] := List.getElem?_eq_getElem (by omega)
      have h2 : xs[i]? = some xs[i] := List.getElem?_eq_getElem hi
      rw [h1, h2, h i _ _ h1 h2]
      rfl
    · rw [List.getElem?_eq_none (by omega), List.getElem?_eq_none (by omega)]
      rfl
  rw [e, List.flatMap_def]
theorem ty_cells {W : World} {n : Nat} {cs : List Value} {y : DataW H × List MemPlace} (h : DataW.trod enc Tryd.prog W 0 (fun _ => true) true n 23 cs = some y) (hw : (y.1.weights Tryd.prog 23).all (· ≤ reachBytes) = true) : ∃ x : T, cs = tyL x ∧ x.n.size ≤ 140737488351232 := by
  obtain ⟨y0, y1, m, hx, hl, hy0, hy1⟩ := trod_struct2 Tryd.underlying23 h
  rw [A.cellsTy] at hl
  match cs, hl with
  | [c0, c1], _ =>
  obtain ⟨a, e0, rfl, wa⟩ := DataW.trod_int Tryd.underlying3 hy0
  obtain ⟨b, e1, rfl, wb⟩ := DataW.trod_string Tryd.underlying9 hy1
  simp [A.cellsInt, A.cellsStr] at e0 e1
  subst e0 e1
  subst hx
  simp [DataW.weights, Tryd.underlying23, DataW.weightsEach, reachBytes] at hw
  exact ⟨⟨a, b⟩, rfl, of_decide_eq_true hw⟩
theorem ln_cells {W : World} {n : Nat} {cs : List Value} {y : DataW H × List MemPlace} (h : DataW.trod enc Tryd.prog W 0 (fun _ => true) true n 59 cs = some y) (hw : (y.1.weights Tryd.prog 59).all (· ≤ reachBytes) = true) :
    ∃ x : Hi.Ln, cs = lnL x ∧ x.1.size ≤ maxLen ∧ x.2.size ≤ maxLen := by
  obtain ⟨xs, m, -, hy, hl, hlen, hf⟩ := DataW.trod_struct Tryd.underlying59 h
  have hl3 : cs.length = 2 := hl.trans (by kernel_rfl)
  have hx3 : xs.length = 2 := hlen
  match xs, hx3 with
  | [x0, x1], _ =>
  match cs, hl3 with
  | [k0, k1], _ =>
  obtain ⟨a, e0, g0, -⟩ := DataW.trod_string Tryd.underlying9 (hf 0 _ rfl)
  obtain ⟨b, e1, g1, -⟩ := DataW.trod_string Tryd.underlying9 (hf 1 _ rfl)
  have q0 : ([k0, k1].drop 0).take (Tryd.prog.cellsOf 9) = [.string a] := e0
  have q1 : ([k0, k1].drop 1).take (Tryd.prog.cellsOf 9) = [.string b] := e1
  clear e0 e1 hf
  rw [A.cellsStr] at q0 q1
  simp only [List.drop_zero, List.take_succ_cons, List.take_zero, List.cons.injEq, and_true, List.drop_succ_cons] at q0 q1
  subst q0 q1
  subst g0 g1 hy
  refine ⟨(a, b), rfl, ?_⟩
  simp [DataW.weights, Tryd.underlying59, DataW.weightsEach, reachBytes] at hw
  have h1 : a.size ≤ 140737488351232 := of_decide_eq_true hw.1
  have h2 : b.size ≤ 140737488351232 := of_decide_eq_true hw.2
  exact ⟨show a.size ≤ _ by unfold maxLen; omega, show b.size ≤ _ by unfold maxLen; omega⟩
theorem lns_cell {W : World} {n : Nat} {k : Value} {y : DataW H × List MemPlace} (h : DataW.trod enc Tryd.prog W 0 (fun _ => true) true n 32 [k] = some y) (hw : (y.1.weights Tryd.prog 32).all (· ≤ reachBytes) = true) :
    ∃ l : List Hi.Ln, Kit.IsS 2 W k l.length (l.flatMap lnL) ∧ (∀ x ∈ l, x.1.size ≤ maxLen ∧ x.2.size ≤ maxLen) := by
  obtain ⟨xs, rs, h1, h2, h3, h4, h5⟩ := list_cell (s := 2) (by_ := 32) (tE := 59) (fun (_ : DataW H) cs (x : Hi.Ln) => cs = lnL x ∧ x.1.size ≤ maxLen ∧ x.2.size ≤ maxLen) (fun _ _ x h => by rw [h.1]; rfl) (by decide) Tryd.underlying32 (by kernel_rfl) (by kernel_rfl) (by decide) (fun m cs z hz hw => ln_cells hz hw) h hw
  refine ⟨xs, ?_, fun c hc => ?_⟩
  · rw [← rs_map h1 (fun i r x hr hx => by obtain ⟨d, hd, -⟩ := h2 i r x hr hx; exact hd.1)]
    exact h3
  · obtain ⟨i, hi⟩ := List.mem_iff_getElem?.1 hc
    have hlt : i < rs.length := by rw [h1]; exact (List.getElem?_eq_some_iff.1 hi).1
    obtain ⟨d, hd, -⟩ := h2 i _ c (List.getElem?_eq_getElem hlt) hi
    exact hd.2
theorem open_types {W : World} {base : Nat} {v : Value} {d : DataW H} {p : List MemPlace} (hv : Value.okWide Tryd.prog W .any base 34 v) (h : DataW.Trod enc Tryd.prog W 0 (fun _ => true) true 34 v d p) (hw : (d.weights Tryd.prog 34).all (· ≤ reachBytes) = true) :
    ∃ (lv : Value) (l : List Hi.Ln) (a b c : T), v = .agg #[lv, .int .i64 a.k, .string a.n, .int .i64 b.k, .string b.n, .int .i64 c.k, .string c.n] ∧ Kit.IsS 2 W lv l.length (l.flatMap lnL) ∧ (∀ x ∈ l, x.1.size ≤ maxLen ∧ x.2.size ≤ maxLen) ∧ a.n.size ≤ 140737488351232 ∧ b.n.size ≤ 140737488351232 ∧ c.n.size ≤ 140737488351232 := by
  obtain ⟨cs, rfl, hsz⟩ := okWide_struct Tryd.underlying34 hv
  obtain ⟨fuel, hf0⟩ := h
  obtain ⟨xs, m, -, hy, hl, hlen, hf⟩ := DataW.trod_struct Tryd.underlying34 hf0
  have hl7 : cs.toList.length = 7 := hl.trans (by kernel_rfl)
  have hx4 : xs.length = 4 := hlen
  obtain ⟨cs⟩ := cs
  match xs, hx4 with
  | [x0, x1, x2, x3], _ =>
  match cs, hl7 with
  | [k0, k1, k2, k3, k4, k5, k6], _ =>
  have f0 : DataW.trod enc Tryd.prog W 0 (fun _ => true) true m 32 (([k0, k1, k2, k3, k4, k5, k6].drop 0).take (Tryd.prog.cellsOf 32)) = some x0 := hf 0 _ rfl
  have f1 : DataW.trod enc Tryd.prog W 0 (fun _ => true) true m 23 (([k0, k1, k2, k3, k4, k5, k6].drop 1).take (Tryd.prog.cellsOf 23)) = some x1 := hf 1 _ rfl
  have f2 : DataW.trod enc Tryd.prog W 0 (fun _ => true) true m 23 (([k0, k1, k2, k3, k4, k5, k6].drop 3).take (Tryd.prog.cellsOf 23)) = some x2 := hf 2 _ rfl
  have f3 : DataW.trod enc Tryd.prog W 0 (fun _ => true) true m 23 (([k0, k1, k2, k3, k4, k5, k6].drop 5).take (Tryd.prog.cellsOf 23)) = some x3 := hf 3 _ rfl
  rw [A.cellsLns] at f0
  rw [A.cellsTy] at f1 f2 f3
  simp only [List.take_succ_cons, List.take_zero, List.drop_succ_cons, List.drop_zero] at f0 f1 f2 f3
  have hd := (Prod.mk.inj hy).1
  try dsimp only at hd
  subst hd
  simp only [DataW.weights, Tryd.underlying34, List.map_cons, List.map_nil, DataW.weightsEach, List.all_append, Bool.and_eq_true] at hw
  obtain ⟨l, h1, h2⟩ := lns_cell f0 (by simp_all)
  obtain ⟨a, ha, ha2⟩ := ty_cells f1 (by simp_all)
  obtain ⟨b, hb, hb2⟩ := ty_cells f2 (by simp_all)
  obtain ⟨c, hc, hc2⟩ := ty_cells f3 (by simp_all)
  unfold tyL at ha hb hc
  simp only [List.cons.injEq, and_true] at ha hb hc
  obtain ⟨rfl, rfl⟩ := ha
  obtain ⟨rfl, rfl⟩ := hb
  obtain ⟨rfl, rfl⟩ := hc
  exact ⟨k0, l, a, b, c, rfl, h1, h2, ha2, hb2, hc2⟩
theorem weights_eachT {P : Program} : ∀ {ts : List TypeId} {ds : List (DataW H)} {j : Nat} {t : TypeId} {d : DataW H}, ts[j]? = some t → ds[j]? = some d → (DataW.weightsEach P ts ds).all (· ≤ reachBytes) = true → (d.weights P t).all (· ≤ reachBytes) = true
  | [], _, _, _, _, h, _, _ => by simp at h
  | _, [], _, _, _, _, h, _ => by simp at h
  | t :: ts, d :: ds, 0, _, _, h1, h2, h => by
    simp only [List.getElem?_cons_zero, Option.some.injEq] at h1 h2
    subst h1 h2
    simp only [DataW.weightsEach, List.all_append, Bool.and_eq_true] at h
    exact h.1
  | t :: ts, d :: ds, j + 1, _, _, h1, h2, h => by
    simp only [DataW.weightsEach, List.all_append, Bool.and_eq_true] at h
    exact weights_eachT (j := j) (by simpa using h1) (by simpa using h2) h.2
end
end Go.Proofs.YtahjnaoabfkpcaaDoor
namespace Go.Proofs.YtahjnaoabfkpcaaDoor.lawOrder
open Go.ChangeShapes Go.WideShapes Go.ChangeAt Go.RowKit Go.WideMaps Go.WideElems
open Go.ChangeMaps (setBlock shut_map_nil open_string shut_string keptBut_setBlock frozen?_setBlock heap_setBlock_same)

set_option maxRecDepth 100000 in
theorem contract (H : Type) (enc : TypeId × Value → H) (W : World) (base : Nat) (args : Array Value) (ds gs : List (DataW H)) (before : List MemPlace)
    (hval : ∀ (j : Nat) t v, Tryd.f4.params[j]? = some t → args[j]? = some v → Value.okWide Tryd.prog W .any base t v)
    (hW : DataW.Whole enc Tryd.prog Tryd.f4.params.toList Rows.vtypeOrderSpec.vars false W args.toList ds gs before)
    (hsz : (DataW.weightsEach Tryd.prog (Tryd.f4.params.toList ++ (OpenSpec.ofChange Rows.vtypeOrderSpec).bare.plain.varTypes Tryd.prog) (ds ++ gs)).all (· ≤ reachBytes) = true)
    (_hL : laidMetH Tryd.prog Rows.vtypeOrderRow.laid W) :
    Calls Tryd.prog 4 args W fun e W' => ∃ v, e = .returned v ∧ Rows.vtypeOrderSpec.post enc Tryd.prog Tryd.f4 false true false false W args v W' := by
  have hW' := hW
  obtain ⟨p, q, hA0, hV, rfl, hfz, hnd⟩ := hW
  have hA : DataW.TrodAll enc Tryd.prog W 0 (fun _ => true) true Tryd.f4.params.toList args.toList ds p := hA0
  rw [Tryd.params4] at hA hval hsz
  obtain ⟨v0, vs0, d0, ds0, p0, q0, hargs, rfl, rfl, h0, r0⟩ := trodAll_cons hA
  obtain ⟨rfl, rfl, rfl⟩ := trodAll_nil r0
  obtain rfl : args = #[v0] := by cases args; simp_all
  obtain ⟨rfl, rfl⟩ := trodVars_none hV
  obtain ⟨lv0, l0, a0, b0, c0, rfl, wl0, ws0, wa0, wb0, wc0⟩ := open_types (hval 0 34 v0 rfl rfl) h0 (weights_eachT (j := 0) (t := 34) (d := d0) rfl rfl hsz)
  refine (order_law wl0 ws0 wa0 wb0 wc0).mono fun e W' ⟨he, hb⟩ => ?_
  subst he
  exact ⟨_, rfl, Kit.law_post rfl rfl Tryd.underlying4 (by kernel_rfl) (by decide +kernel) hW' rfl hb⟩

theorem reads (os : Os) {H : Type} (enc : TypeId × Value → H) : ∃ places, DataW.whole enc Tryd.prog ((laidWorld os).forCall (fun _ _ => 0) ⟨#[], #[.agg #[.slice none 0 0, .int .i64 0, .string ⟨#[]⟩, .int .i64 0, .string ⟨#[]⟩, .int .i64 0, .string ⟨#[]⟩]], []⟩).memory Tryd.f4.params.toList Rows.vtypeOrderSpec.vars false (#[.agg #[.slice none 0 0, .int .i64 0, .string ⟨#[]⟩, .int .i64 0, .string ⟨#[]⟩, .int .i64 0, .string ⟨#[]⟩]] : Array Value).toList 8 = some ([.agg [.nil, .agg [.lit (.int .i64 0), .lit (.string [])], .agg [.lit (.int .i64 0), .lit (.string [])], .agg [.lit (.int .i64 0), .lit (.string [])]]], [], places) :=
  ⟨[], by kernel_rfl⟩
theorem laid_met (os : Os) : laidMet Tryd.prog Rows.vtypeOrderRow.laid ((laidWorld os).forCall (fun _ _ => 0) ⟨#[], #[.agg #[.slice none 0 0, .int .i64 0, .string ⟨#[]⟩, .int .i64 0, .string ⟨#[]⟩, .int .i64 0, .string ⟨#[]⟩]], []⟩).memory :=
  laidMet_of_run' 8 (by kernel_rfl) (by kernel_rfl)
set_option maxRecDepth 100000 in
theorem lifted (os : Os) (started : os.Started) (H : Type) (enc : TypeId × Value → H) (F : Stop.Interp) :
    ReturnsInHanded {} Tryd.checked os 4 .any ((OpenSpec.ofChange Rows.vtypeOrderSpec).preRow enc Tryd.prog Tryd.f4 Rows.vtypeOrderRow.domain false Rows.vtypeOrderRow.laid) (((OpenSpec.ofChange Rows.vtypeOrderSpec).at F).post enc Tryd.prog Tryd.f4 false true false false) := by
  obtain ⟨places, hx⟩ := reads os enc
  refine returnsInHanded_of_row (C := Tryd.checked) (s := (OpenSpec.ofChange Rows.vtypeOrderSpec)) own started (by kernel_rfl) Tryd.func4
    (witness_row_at (enc := enc) (C := Tryd.checked) false (laidWorld os) #[.agg #[.slice none 0 0, .int .i64 0, .string ⟨#[]⟩, .int .i64 0, .string ⟨#[]⟩, .int .i64 0, .string ⟨#[]⟩]] rfl (by kernel_rfl) (by kernel_rfl) (by kernel_rfl)
      (OpenSpec.preRow_of_cond 8 hx (by kernel_rfl) (fun k hk => by cases hk) (by kernel_rfl) (laid_met os))) ?_
  intro W base args ds gs before hval hW _ _ hsz hL _ _
  exact contract H enc W base args ds gs before hval hW hsz hL
theorem said : Rows.VtypeOrderSaid :=
  OpenClaim.holds_of_cond 4 Tryd.f4 rfl rfl rfl rfl rfl rfl rfl ⟨rfl, rfl, rfl, rfl, rfl⟩ rfl rfl rfl rfl rfl (by kernel_rfl) Tryd.func4 (by kernel_rfl)
    (of_decide_eq_true (by kernel_rfl)) (by unfold Func.isWrapper; first | (rw [if_pos (by decide +kernel)]; kernel_rfl) | (rw [if_neg (by decide +kernel)]; exact ⟨rfl, rfl⟩))
    (fun os started H enc _ F => by rw [OpenClaim.pre_eq_preRow]; exact lifted os started H enc F)
theorem plain (f : FuncId) (fn : Func) (hf : Tryd.pinned.checked.prog.funcNamed "tabard/tabardlaw11.VtypeOrder" = some f) (hfn : Tryd.pinned.checked.prog.funcs[f]? = some fn) :
    false = Tryd.pinned.checked.prog.looks [] ∧ ∀ (j : Nat) t, fn.params[j]? = some t → Tryd.pinned.checked.prog.wantsStandIn t = false := by
  obtain rfl : f = 4 := Option.some.inj ((show Tryd.prog.funcNamed "tabard/tabardlaw11.VtypeOrder" = some 4 by kernel_rfl).symm.trans hf) |>.symm
  obtain rfl : fn = Tryd.f4 := (Option.some.inj (Tryd.func4.symm.trans hfn)).symm
  refine ⟨by kernel_rfl, fun j t ht => ?_⟩
  rw [Tryd.params4] at ht
  have hm := Array.mem_of_getElem? ht
  exact (show ∀ t ∈ #[34], Tryd.prog.wantsStandIn t = false by decide +kernel) t hm
/-- THE CARD. -/
theorem card : Rows.VtypeOrderCardSaid :=
  Claim7.holds_tied_plain_at .later [] _ _ _ _ said (fun _ h => by cases h) (by kernel_rfl) (fun _ h => by cases h) vtypeOrder_row_tie rfl ⟨rfl, rfl⟩ (by kernel_rfl) rfl plain (by kernel_rfl)
end Go.Proofs.YtahjnaoabfkpcaaDoor.lawOrder
